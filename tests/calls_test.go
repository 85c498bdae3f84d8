package tests

import (
	"fmt"
	"math"
	"math/rand"
	"slices"
	"strings"
	"sync"
	"testing"

	"loop.example/g00548/impl"
)

// stageCalls are calls of all functions, each telling its whole answer.
func stageCalls() []func() string {
	var calls []func() string
	for _, n := range []int{math.MinInt, -1, 0, 1, 19, 20, math.MaxInt} {
		calls = append(calls, func() string { return impl.CodeWord(n) })
	}
	for _, s := range []string{"", "ok", "name_1", "1", "Ff", "ff", "\xff\x00", textOf(63), textOf(64), strings.Repeat("0", impl.MaxText), textOf(impl.MaxText), textOf(impl.MaxText + 1)} {
		calls = append(calls,
			func() string { return fmt.Sprint(impl.NameOK(s)) },
			func() string { return fmt.Sprint(impl.CodeOf(s)) },
			func() string { return told(impl.HashOf(s)) },
			func() string { return told(impl.HexOf(s)) },
			func() string { return told(impl.UnHex(s)) },
		)
	}
	hashes := append(badHashes(), impl.NewHash(), impl.Hash{}, hashAt(63), hashAt(900000000), hashAt(900000001), hashAt(1000000000))
	for _, h := range hashes {
		calls = append(calls, func() string { return callsOn(h) })
	}
	calls = append(calls, func() string { return fmt.Sprint(impl.NewHash()) })
	return slices.Concat(calls, streamCalls(), tagCalls(), boxCalls(), deviceCalls(), blockCalls(), treeCalls(), wayCalls(), batchCalls(), mapCalls(), hiddenCalls(), codecCalls())
}

func streamCalls() []func() string {
	var calls []func() string
	for _, w := range slices.Concat(edgeWords, wrongWords) {
		for place := range 4 {
			x := [4]int{1, 2, 3, 4}
			x[place] = w
			calls = append(calls, func() string { return fmt.Sprint(impl.QuarterRound(x)) })
		}
	}
	for _, n := range []int{0, 11, 12, 31, 32, 33, impl.MaxText + 1} {
		calls = append(calls, func() string { return callsWith(textOf(n), textOf(12), 1) })
		calls = append(calls, func() string { return callsWith(textOf(32), textOf(n), 1) })
	}
	for _, count := range slices.Concat(rightCounts, wrongCounts) {
		calls = append(calls, func() string { return callsWith(textOf(32), textOf(12), count) })
	}
	return calls
}

func callsWith(key, nonce string, count int) string {
	out := told(impl.ChaBlock(key, nonce, count)) + told(impl.XorOf(key, nonce)) + told(impl.XorOf(key, textOf(32)))
	for _, n := range []int{0, 1, 64, 65, impl.MaxText + 1} {
		out += told(impl.ChaXor(key, nonce, count, textOf(n)))
	}
	return out
}

func tagCalls() []func() string {
	var calls []func() string
	for _, n := range []int{0, 16, 31, 32, 33, impl.MaxText, impl.MaxText + 1} {
		key := textOf(n)
		calls = append(calls, func() string { return told(impl.ClampKey(key)) })
		for _, size := range []int{0, 1, 15, 16, 17, 64, impl.MaxText, impl.MaxText + 1} {
			calls = append(calls,
				func() string { return told(impl.PolyTag(key, textOf(size))) },
				func() string { return fmt.Sprint(impl.TagEqual(key, textOf(size))) },
			)
		}
	}
	return calls
}

func boxCalls() []func() string {
	var calls []func() string
	add := func(key, nonce, ad, text string) {
		calls = append(calls,
			func() string { return told(impl.BoxTag(key, nonce, ad, text)) },
			func() string { return told(impl.SealBox(key, nonce, ad, text)) },
			func() string { return told(impl.OpenBox(key, nonce, ad, text)) },
		)
	}
	key, nonce := textOf(32), textOf(12)
	for _, n := range []int{0, 1, 15, 16, 17, 100, impl.MaxText, impl.MaxText + 1} {
		add(textOf(n), nonce, "", textOf(16))
		add(key, textOf(n), "", textOf(16))
		add(key, nonce, textOf(n), textOf(16))
		add(key, nonce, textOf(n), textOf(n))
		sealed, _ := impl.SealBox(key, nonce, "beside", textOf(n))
		add(key, nonce, "beside", sealed)
		add(key, nonce, "", sealed)
	}
	return calls
}

func deviceCalls() []func() string {
	calls := []func() string{func() string { return toldDevice(impl.NewDevice(), impl.OK) }}
	devices := []impl.Device{impl.NewDevice(), someDevice(), deviceOf(nil, writesOf(60)...), deviceOf(nil, writesOf(61)...), {}}
	for _, d := range devices {
		calls = append(calls,
			func() string { return fmt.Sprint(impl.DeviceOK(d)) },
			func() string { return toldDevice(impl.SyncAll(d)) },
			func() string { return fmt.Sprint(impl.SameDevice(d, devices[0]), impl.SameDevice(d, d)) },
		)
		for _, at := range []int{math.MinInt, -1, 0, 3, 39, 40, math.MaxInt} {
			calls = append(calls, func() string { return told(impl.ReadAt(d, at)) })
			for _, n := range []int{0, 700, 701, impl.MaxText + 1} {
				calls = append(calls, func() string { return toldDevice(impl.WriteAt(d, at, textOf(n))) })
			}
			for _, n := range []int{math.MinInt, -1, 0, 1, 255, 256, math.MaxInt} {
				calls = append(calls, func() string { return toldDevice(impl.FlipAt(d, at, 0, n)) })
				calls = append(calls, func() string { return toldDevice(impl.FlipAt(d, at, n, 1)) })
			}
		}
		for _, fates := range [][]int{nil, {}, {0}, {1, 2}, {2, 0, 1}, {-1}, {3}, make([]int, impl.MaxList+1)} {
			calls = append(calls, func() string { return toldDevice(impl.CrashWith(d, fates)) })
		}
	}
	return calls
}

func blockCalls() []func() string {
	var calls []func() string
	add := func(b block) {
		calls = append(calls,
			func() string { return told(impl.NonceOf(b.kind, b.place, b.epoch)) },
			func() string { return told(impl.SealAt(b.key, b.kind, b.place, b.epoch, b.text)) },
			func() string { return told(impl.OpenAt(b.key, b.kind, b.place, b.epoch, b.text)) },
		)
	}
	for _, n := range []int{0, 1, 15, 16, 64, 65, longestSealed, longestSealed + 1, impl.MaxText, impl.MaxText + 1} {
		b := someBlock(n)
		sealed, _ := impl.SealAt(b.key, b.kind, b.place, b.epoch, b.text)
		add(b)
		add(b.with(sealed))
		add(b.with(sealed).at(b.kind, b.place, b.epoch+1))
		b.key = textOf(n)
		add(b)
	}
	for _, n := range []int{math.MinInt, -1, 0, 1, 3, 4, 39, 40, 256, impl.MaxSeal, impl.MaxSeal + 1, math.MaxInt} {
		add(someBlock(20).at(n, 0, 0))
		add(someBlock(20).at(1, n, 0))
		add(someBlock(20).at(1, 0, n))
		calls = append(calls, func() string { return told(impl.IntsText([]int{1, n, 2})) })
	}
	for _, n := range []int{0, 1, 2, 3, 4, 5, 8, impl.MaxList, impl.MaxList + 1, impl.MaxText, impl.MaxText + 1} {
		calls = append(calls,
			func() string { return told(impl.IntsText(make([]int, n))) },
			func() string { return fmt.Sprint(impl.TextInts(textOf(n))) },
		)
	}
	return calls
}

func treeCalls() []func() string {
	var calls []func() string
	texts := someTexts()
	root, _ := impl.RootOf(texts)
	for _, at := range []int{math.MinInt, -1, 0, 1, 7, 8, 15, 16, math.MaxInt} {
		proof, _ := impl.ProofOf(texts, at&15)
		calls = append(calls,
			func() string { return fmt.Sprint(impl.CheckProof(root, at, texts[at&15], proof)) },
			func() string { return fmt.Sprint(impl.CheckProof(root, at, texts[0], proof)) },
			func() string { return fmt.Sprint(impl.CheckProof(root, at, "", nil)) },
			func() string { return fmt.Sprint(impl.CheckProof(root, at, "", make([]string, 4))) },
		)
		for _, n := range []int{0, 15, 16, 17, impl.MaxList, impl.MaxList + 1} {
			list := slices.Repeat(texts, 1+n/16)[:n]
			calls = append(calls, func() string { return toldProof(impl.ProofOf(list, at)) })
		}
	}
	for _, n := range []int{0, 1, 15, 16, 17, impl.MaxList, impl.MaxList + 1} {
		list := slices.Repeat(texts, 1+n/16)[:n]
		calls = append(calls, func() string { return told(impl.RootOf(list)) })
	}
	for _, n := range []int{0, 1, 31, 32, 33, 62, 700, 701, impl.MaxText, impl.MaxText + 1} {
		calls = append(calls,
			func() string { return told(impl.LeafDigest(3, textOf(n))) },
			func() string { return told(impl.LeafDigest(16, textOf(n))) },
			func() string { return told(impl.JoinDigests(textOf(n), root)) },
			func() string { return told(impl.JoinDigests(root, textOf(n))) },
			func() string { return told(impl.ChainTip(textOf(n), "a text")) },
			func() string { return told(impl.ChainTip(root, textOf(n))) },
			func() string { return told(impl.RootOf(slices.Repeat([]string{textOf(n)}, 16))) },
			func() string {
				return fmt.Sprint(impl.CheckProof(textOf(n), 0, textOf(n), slices.Repeat([]string{textOf(n)}, 4)))
			},
		)
	}
	return calls
}

func wayCalls() []func() string {
	var calls []func() string
	numbers := []int{math.MinInt, -1, 0, 3, 7, 8, 11, 12, 14, 15, 999999, 1000000, math.MaxInt}
	for _, n := range []int{0, 1, 11, 12, 13, impl.MaxList, impl.MaxList + 1} {
		list := slices.Repeat(leavesInTurn(), 1+n/12)[:n]
		calls = append(calls, func() string { return toldOram(impl.NewOram(list)) })
	}
	for _, n := range numbers {
		calls = append(calls,
			func() string { return fmt.Sprint(impl.PathOf(n)) },
			func() string { return fmt.Sprint(impl.OnPath(n, 3)) },
			func() string { return fmt.Sprint(impl.OnPath(4, n)) },
			func() string { return toldOram(impl.NewOram(append(make([]int, 11), n))) },
		)
	}
	orams := append(oramsByChance(31, 8), someOram(), oramOf(nil, nil), oramOf([]int{3, 3}, nil), impl.Oram{})
	for _, o := range orams {
		calls = append(calls, func() string { return fmt.Sprint(impl.OramOK(o), impl.SameOram(o, orams[0])) })
		for _, n := range numbers {
			calls = append(calls,
				func() string { return fmt.Sprint(impl.ValueAt(o, n)) },
				func() string { return fmt.Sprint(impl.WhereIs(o, n)) },
				func() string { return toldAccess(impl.Access(o, n, false, 0, 6)) },
				func() string { return toldAccess(impl.Access(o, 3, true, n, 6)) },
				func() string { return toldAccess(impl.Access(o, 3, true, 5, n)) },
			)
		}
	}
	return calls
}

func batchCalls() []func() string {
	var calls []func() string
	for _, n := range []int{math.MinInt, -1, 0, 1, 3, 4, 5, 6, 7, 9999, 10000, 999999, 1000000, math.MaxInt} {
		for _, o := range []impl.Op{{Kind: n, Key: 1}, {Kind: n, Key: 1, Value: 1}, {Kind: 1, Key: n}, {Kind: 1, Key: 1, Value: n}, {Kind: 2, Key: 1, Value: n}, {Kind: 6, Key: 1, Value: n}} {
			calls = append(calls,
				func() string { return fmt.Sprint(impl.OpOK(o)) },
				func() string { return told(impl.OpText(o)) },
			)
		}
	}
	lists := [][]impl.Txn{nil, {}, {{}}, someBatch(), someShortBatch(), slices.Repeat(someShortBatch(), 2), make([]impl.Txn, impl.MaxList), make([]impl.Txn, impl.MaxList+1), {{Ops: make([]impl.Op, impl.MaxList+1)}}}
	for _, list := range lists {
		calls = append(calls,
			func() string { return fmt.Sprint(impl.BatchOK(list)) },
			func() string { return told(impl.BatchText(list)) },
			func() string { return fmt.Sprint(impl.SameBatch(list, lists[3]), impl.SameBatch(list, list)) },
		)
	}
	texts := []string{
		"", " ", ";", "|", "get 1", " put  1 5 ", "put 1", "get 1 1", "get 01", "scan 1 5", "get 1;get 2", "get 1 | drop 2; add 3 4 ", "get 1;", "get 1||get 2", "get 1|get 2|get 3",
		textOf(100), textOf(impl.MaxText), textOf(impl.MaxText + 1), "get 1" + strings.Repeat(" ", impl.MaxText-5), "get 1" + strings.Repeat(" ", impl.MaxText-4), strings.Repeat("|", impl.MaxText), strings.Repeat(";", impl.MaxText),
	}
	for _, text := range texts {
		calls = append(calls,
			func() string { return fmt.Sprint(impl.ReadOp(text)) },
			func() string { return fmt.Sprint(impl.ReadBatch(text)) },
		)
	}
	return calls
}

func mapCalls() []func() string {
	var calls []func() string
	maps := [][]impl.Entry{nil, {}, {{}}, someMap(), fullMap(), endsMap(), make([]impl.Entry, 12), make([]impl.Entry, impl.MaxList+1)}
	batches := [][]impl.Txn{nil, {{}}, someBatch(), someShortBatch(), batchNamed("drop 10; put 3 5; put 77 1; check 77 2 | add 5 9; add 6 1; scan 1 4"), make([]impl.Txn, impl.MaxList+1)}
	for _, m := range maps {
		calls = append(calls, func() string { return fmt.Sprint(impl.MapOK(m)) })
		for _, n := range []int{math.MinInt, -1, 0, 1, 3, 10, 40, 9999, 10000, math.MaxInt} {
			calls = append(calls, func() string { return fmt.Sprint(impl.MapGet(m, n)) })
			for kind := range 8 {
				calls = append(calls,
					func() string { return fmt.Sprint(impl.MapDo(m, impl.Op{Kind: kind, Key: n, Value: 1})) },
					func() string { return fmt.Sprint(impl.MapDo(m, impl.Op{Kind: kind, Key: 10, Value: n})) },
				)
			}
		}
		for _, list := range batches {
			calls = append(calls, func() string { return fmt.Sprint(impl.MapBatch(m, list)) })
			for _, txn := range list[:min(2, len(list))] {
				calls = append(calls, func() string { return fmt.Sprint(impl.MapTxn(m, txn)) })
			}
		}
	}
	for _, n := range []int{math.MinInt, -1, 0, 1, 14, 19, 20, 999999, 1000000, math.MaxInt} {
		for _, r := range []impl.Result{{Code: n}, {Code: n, Values: []int{1}}, {Values: []int{1, n}}, {Values: slices.Repeat([]int{n}, 32)}, {Values: slices.Repeat([]int{n}, 33)}} {
			calls = append(calls, func() string { return told(impl.ResultText(r)) })
		}
	}
	texts := []string{
		"", " ", "ok", "check", "  full ", "what", "OK", "ok 1", "ok  1 2 ", "ok 01", "ok -1", "ok 1000000", "check 1", "ok\t1", "ok" + strings.Repeat(" 7", 32), "ok" + strings.Repeat(" 7", 33),
		textOf(100), textOf(impl.MaxText), textOf(impl.MaxText + 1), "ok" + strings.Repeat(" ", impl.MaxText-2), "ok" + strings.Repeat(" ", impl.MaxText-1), "ok" + strings.Repeat(" 1", impl.MaxText/2-1),
	}
	for _, text := range texts {
		calls = append(calls, func() string { return fmt.Sprint(impl.ReadResult(text)) })
	}
	return calls
}

func hiddenCalls() []func() string {
	var calls []func() string
	numbers := []int{math.MinInt, -1, 0, 1, 7, 8, 9999, 10000, math.MaxInt}
	for _, n := range []int{0, 11, 12, 13, impl.MaxList, impl.MaxList + 1} {
		list := slices.Repeat(leavesInTurn(), 1+n/12)[:n]
		calls = append(calls, func() string { return fmt.Sprint(impl.NewEnc(list)) })
	}
	for _, n := range numbers {
		keys, leaves := keysWith(someEnc(), 4, n), append(make([]int, 11), n)
		calls = append(calls,
			func() string { return fmt.Sprint(impl.NewEnc(leaves)) },
			func() string { return fmt.Sprint(impl.EncOK(impl.Enc{Keys: keys, Oram: someOram()})) },
			func() string { return fmt.Sprint(impl.MapOf(impl.Enc{Keys: keys, Oram: someOram()})) },
			func() string {
				return fmt.Sprint(impl.EncTxn(someEnc(), someShortBatch()[0], append(make([]int, 19), n)))
			},
			func() string {
				return fmt.Sprint(impl.EncBatch(someEnc(), someShortBatch(), append(make([]int, 39), n)))
			},
		)
	}
	encs := append(encsByChance(85, 6), emptyEnc(), someEnc(), fullEnc(), impl.Enc{}, impl.Enc{Keys: make([]int, 12), Oram: someOram()})
	lists := [][]impl.Txn{nil, {{}}, someBatch(), make([]impl.Txn, impl.MaxList+1)}
	for _, text := range encTexts {
		lists = append(lists, batchNamed(text))
	}
	for _, e := range encs {
		calls = append(calls, func() string { return fmt.Sprint(impl.EncOK(e)) + fmt.Sprint(impl.MapOf(e)) })
		for _, list := range lists {
			for _, n := range []int{0, 19, 20, 21, 39, 40, 41, impl.MaxList, impl.MaxList + 1} {
				draws := slices.Repeat(leavesInTurn(), 1+n/12)[:n]
				calls = append(calls, func() string { return fmt.Sprint(impl.EncBatch(e, list, draws)) })
				for _, txn := range list[:min(2, len(list))] {
					calls = append(calls, func() string { return fmt.Sprint(impl.EncTxn(e, txn, draws)) })
				}
			}
		}
	}
	return calls
}

func codecCalls() []func() string {
	var calls []func() string
	results := [][]impl.Result{nil, {{}}, fullestResults(), {{Code: 14}, {Values: []int{1}}}, {{Code: 20}}, make([]impl.Result, 3), make([]impl.Result, impl.MaxList+1)}
	for _, e := range append(encsByChance(101, 6), emptyEnc(), someEnc(), fullestEnc(), impl.Enc{}, impl.Enc{Keys: []int{1, 1}, Oram: someOram()}) {
		for _, list := range results {
			calls = append(calls, func() string { return told(impl.StateText(e, list)) })
		}
	}
	blocks := [][]impl.Block{nil, {}, {{}}, {{}, {}}, {{Id: 11, Leaf: 7, Value: 999999}, {Id: 3, Leaf: 2, Value: 1}}, make([]impl.Block, 3), make([]impl.Block, impl.MaxList+1)}
	for _, n := range []int{math.MinInt, -1, 8, 12, 1000000, math.MaxInt} {
		blocks = append(blocks, []impl.Block{{Id: n}}, []impl.Block{{}, {Leaf: n}}, []impl.Block{{Value: n}})
	}
	for _, list := range blocks {
		calls = append(calls, func() string { return told(impl.BucketText(list)) })
	}
	for _, list := range [][]impl.Txn{nil, {{}}, someBatch(), someShortBatch(), make([]impl.Txn, 3), make([]impl.Txn, impl.MaxList+1)} {
		for _, draws := range [][]int{nil, make([]int, 39), make([]int, 40), slices.Repeat([]int{8}, 40), slices.Repeat([]int{math.MinInt}, 40), make([]int, 41), make([]int, impl.MaxList+1)} {
			calls = append(calls, func() string { return told(impl.EntryText(list, draws)) })
		}
	}
	texts := []string{"", textOf(28), textOf(272), textOf(560), textOf(impl.MaxText), textOf(impl.MaxText + 1)}
	for _, n := range []int{1, 27, 28, 29, 272, 560, 561, impl.MaxText, impl.MaxText + 1} {
		texts = append(texts, strings.Repeat("\x00", n))
	}
	for _, k := range textKinds() {
		for _, text := range k.right[:5] {
			texts = append(texts, text, text[4:], withNumber(text, 0, 9), withNumber(text, 4, 2147483648), withNumber(text, k.size-1, 1))
		}
	}
	for _, text := range texts {
		calls = append(calls,
			func() string { return fmt.Sprint(impl.ReadState(text)) },
			func() string { return fmt.Sprint(impl.ReadBucket(text)) },
			func() string { return fmt.Sprint(impl.ReadEntry(text)) },
		)
	}
	return calls
}

func toldOram(o impl.Oram, code int) string {
	return fmt.Sprint(o, code)
}

func toldAccess(o impl.Oram, value, leaf, code int) string {
	return fmt.Sprint(o, value, leaf, code)
}

func toldDevice(d impl.Device, code int) string {
	out := fmt.Sprintf("%x", d.Sure)
	for _, write := range d.Unsure {
		out += fmt.Sprintf(" %d %x", write.At, write.Data)
	}
	return out + fmt.Sprint(" ", code)
}

func toldProof(proof []string, code int) string {
	return fmt.Sprintf("%x %d", proof, code)
}

func told(text string, code int) string {
	return fmt.Sprintf("%x %d", text, code)
}

func callsOn(h impl.Hash) string {
	right := impl.HashOK(h)
	x, code := impl.HashMore(h, "a text")
	y, codeLong := impl.HashMore(h, strings.Repeat("b", 130))
	digest := told(impl.HashSum(h))
	return fmt.Sprint(right, x, code, y, codeLong, digest)
}

func TestNoArgumentIsChanged(t *testing.T) {
	for _, h := range append(badHashes(), impl.NewHash(), hashAt(63), hashAt(900000001)) {
		kept := impl.Hash{H: h.H, Buf: strings.Clone(h.Buf), N: h.N}
		callsOn(h)
		if h != kept {
			t.Error("changed", kept.N)
		}
	}
	s := textOf(impl.MaxText)
	kept := strings.Clone(s)
	impl.HashOf(s)
	impl.HashMore(impl.NewHash(), s)
	impl.HexOf(s)
	impl.UnHex(s)
	impl.NameOK(s)
	impl.CodeOf(s)
	impl.ChaBlock(s[:32], s[32:44], 1)
	impl.ChaXor(s[:32], s[32:44], 1, s)
	impl.ChaXor(s[:32], s[32:44], 1, s[:len(s)-1])
	impl.XorOf(s, s)
	impl.XorOf(s[:100], s[100:200])
	impl.ClampKey(s[:32])
	impl.ClampKey(s)
	impl.PolyTag(s[:32], s)
	impl.PolyTag(s[32:64], s[:len(s)-1])
	impl.PolyTag(s[:32], "")
	impl.TagEqual(s, kept)
	impl.TagEqual(s[:16], s[16:32])
	impl.BoxTag(s[:32], s[32:44], s, s)
	impl.SealBox(s[:32], s[32:44], s, s)
	impl.SealBox(s[:32], s[32:44], s[44:49], s[50:])
	impl.OpenBox(s[:32], s[32:44], s, s)
	impl.OpenBox(s[:32], s[32:44], "", s[:15])
	if s != kept {
		t.Error("changed a text")
	}
	sealed, _ := impl.SealBox(s[:32], s[32:44], s, s[:1000])
	kept = strings.Clone(sealed)
	impl.OpenBox(s[:32], s[32:44], s, sealed)
	if sealed != kept {
		t.Error("changed a sealed text")
	}
	x := [4]int{1, 2, 3, 4}
	impl.QuarterRound(x)
	if x != [4]int{1, 2, 3, 4} {
		t.Error("changed words", x)
	}
}

func TestAlikeArgumentsHaveAlikeAnswers(t *testing.T) {
	calls := stageCalls()
	want := make([]string, len(calls))
	for i, call := range calls {
		want[i] = call()
	}
	r := rand.New(rand.NewSource(2))
	for range 3 {
		for _, i := range r.Perm(len(calls)) {
			if got := calls[i](); got != want[i] {
				t.Errorf("call %d: %.80s, ahead %.80s", i, got, want[i])
			}
		}
	}
}

func TestCallsBesideEachOther(t *testing.T) {
	calls := stageCalls()
	want := make([]string, len(calls))
	for i, call := range calls {
		want[i] = call()
	}
	var all sync.WaitGroup
	for worker := range 4 {
		all.Go(func() {
			for _, i := range rand.New(rand.NewSource(int64(worker))).Perm(len(calls)) {
				if calls[i]() != want[i] {
					t.Error("call", i)
				}
			}
		})
	}
	all.Wait()
}

func TestNewHashIsNewEachTime(t *testing.T) {
	h := impl.NewHash()
	h.H[0], h.Buf, h.N = 7, "x", 1
	more(t, h, textOf(200))
	if x := impl.NewHash(); x.H[0] != 0x6a09e667 || x.Buf != "" || x.N != 0 {
		t.Error(x)
	}
}
