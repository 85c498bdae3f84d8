package tests

import (
	"fmt"
	"math"
	"math/rand"
	"slices"
	"strings"
	"testing"

	"loop.example/g00548/impl"
)

const nobodys = 11

// wrongEncKeys are no keys, and not nought, which says that there is none.
var wrongEncKeys = []int{math.MinInt, math.MinInt + 1, -4294967296, -4294967295, -9999, -2, -1, 10000, 10001, 65536, 4294967296, 4294967297, math.MaxInt - 1, math.MaxInt}

func emptyEnc() impl.Enc {
	return impl.Enc{Keys: make([]int, 11), Oram: oramOf(nil, nil)}
}

// someEnc has six keys. Block 2, of key 7, is nowhere; of the blocks that are
// nobody's 1, 4, 7, 10 have values all the same.
func someEnc() impl.Enc {
	return impl.Enc{Keys: []int{40, 0, 7, 9999, 0, 3, 1, 0, 12, 0, 0}, Oram: someOram()}
}

func fullEnc() impl.Enc {
	return impl.Enc{Keys: []int{50, 20, 110, 10, 9999, 70, 1, 30, 90, 100, 80}, Oram: someOram()}
}

// encByChance has n keys, up to most, in any of the blocks.
func encByChance(r *rand.Rand, n, most int) impl.Enc {
	e := impl.Enc{Keys: make([]int, 11), Oram: oramByChance(r, 1+r.Intn(8))}
	for i, block := range r.Perm(11)[:n] {
		if i == 0 {
			e.Keys[block] = most
			continue
		}
		key := 1 + r.Intn(most)
		for slices.Contains(e.Keys, key) {
			key = 1 + r.Intn(most)
		}
		e.Keys[block] = key
	}
	return e
}

func encsByChance(seed int64, n int) []impl.Enc {
	r := rand.New(rand.NewSource(seed))
	var out []impl.Enc
	for i := range n {
		out = append(out, encByChance(r, i%12, []int{14, 14, 9999}[i%3]))
	}
	return out
}

func rightEncs() map[string]impl.Enc {
	right := map[string]impl.Enc{"empty": emptyEnc(), "some": someEnc(), "full": fullEnc()}
	add := func(name string, keys ...int) {
		right[name] = impl.Enc{Keys: keys, Oram: someOram()}
	}
	add("rising", 1, 2, 3, 4, 5, 6, 7, 8, 9, 10, 11)
	add("falling", 9999, 9998, 9997, 9996, 9995, 9994, 9993, 9992, 9991, 9990, 9989)
	add("neither", 5, 1, 9, 2, 8, 3, 7, 4, 6, 9999, 11)
	add("noughts between", 0, 5, 0, 1, 0, 9, 0, 2, 0, 9999, 0)
	for at := range 11 {
		for _, key := range edgeKeys {
			keys := make([]int, 11)
			keys[at] = key
			add(fmt.Sprintf("%d in place %d alone", key, at), keys...)
			keys = []int{501, 502, 503, 504, 505, 506, 507, 508, 509, 510, 511}
			keys[at] = key
			add(fmt.Sprintf("%d in place %d", key, at), keys...)
		}
		keys := []int{501, 502, 503, 504, 505, 506, 507, 508, 509, 510, 511}
		keys[at] = 0
		add(fmt.Sprintf("none in place %d", at), keys...)
	}
	for name, o := range rightOrams() {
		right["the tree "+name] = impl.Enc{Keys: slices.Clone(someEnc().Keys), Oram: o}
	}
	for i, e := range encsByChance(70, 60) {
		right[fmt.Sprint("drawn ", i)] = e
	}
	return right
}

// badEncs are all that is not right, each in one thing alone.
func badEncs() map[string]impl.Enc {
	bad := map[string]impl.Enc{"zero": {}, "keys alone": {Keys: make([]int, 11)}, "a tree alone": {Oram: oramOf(nil, nil)}}
	for _, n := range []int{0, 1, 10, 12, 13, 22, impl.MaxList, impl.MaxList + 1} {
		bad[fmt.Sprintf("%d noughts", n)] = impl.Enc{Keys: make([]int, n), Oram: someOram()}
		keys := make([]int, n)
		for i := range keys {
			keys[i] = 1 + i
		}
		bad[fmt.Sprintf("%d keys", n)] = impl.Enc{Keys: keys, Oram: someOram()}
	}
	for name, e := range map[string]func() impl.Enc{"empty": emptyEnc, "some": someEnc, "full": fullEnc} {
		for at := range 11 {
			for _, key := range wrongEncKeys {
				x := e()
				x.Keys[at] = key
				bad[fmt.Sprintf("%s, key %d in place %d", name, key, at)] = x
			}
			for other := range at {
				for _, key := range []int{1, 777, 9999} {
					x := e()
					for i := range x.Keys {
						// So that no other key is the one that stands twice.
						x.Keys[i] = min(x.Keys[i], 1) * (2000 + i)
					}
					x.Keys[at], x.Keys[other] = key, key
					bad[fmt.Sprintf("%s, %d in places %d and %d", name, key, other, at)] = x
				}
			}
		}
	}
	bad["one key everywhere"] = impl.Enc{Keys: slices.Repeat([]int{5}, 11), Oram: someOram()}
	for name, o := range badOrams() {
		bad["the tree "+name] = impl.Enc{Keys: slices.Clone(someEnc().Keys), Oram: o}
		bad["empty, the tree "+name] = impl.Enc{Keys: make([]int, 11), Oram: o}
	}
	return bad
}

func keptEnc(e impl.Enc) impl.Enc {
	return impl.Enc{Keys: slices.Clone(e.Keys), Oram: keptOram(e.Oram)}
}

// unlikeEncs tells where two hidden maps are not alike; it is empty if they are.
func unlikeEncs(a, b impl.Enc) string {
	if !slices.Equal(a.Keys, b.Keys) {
		return fmt.Sprintf("keys %v, not %v", a.Keys, b.Keys)
	}
	return unlikeOrams(a.Oram, b.Oram)
}

func isZeroEnc(e impl.Enc) bool {
	return len(e.Keys) == 0 && isZeroOram(e.Oram)
}

func plainMapOf(keys, values []int) []impl.Entry {
	var m []impl.Entry
	for block, key := range keys {
		if key != 0 {
			m = append(m, impl.Entry{Key: key, Value: values[block]})
		}
	}
	slices.SortFunc(m, func(a, b impl.Entry) int { return a.Key - b.Key })
	return m
}

func plainValues(o impl.Oram) []int {
	values := make([]int, 12)
	for id := range values {
		values[id] = plainValue(o, id)
	}
	return values
}

func mapIn(e impl.Enc) []impl.Entry {
	return plainMapOf(e.Keys, plainValues(e.Oram))
}

// drawsByChance are n leaves, as many of them unlike as leaves says.
func drawsByChance(r *rand.Rand, n, leaves int) []int {
	draws := make([]int, n)
	for i := range draws {
		draws[i] = r.Intn(leaves) * 7 / max(1, leaves-1)
	}
	return draws
}

// someDraws are draws of several sorts.
func someDraws(n int) [][]int {
	r := rand.New(rand.NewSource(71))
	draws := [][]int{make([]int, n), slices.Repeat([]int{7}, n), make([]int, n), make([]int, n)}
	for i := range n {
		draws[2][i] = i % 8
		draws[3][i] = (5*i + 3) % 8
	}
	for leaves := 2; leaves <= 8; leaves++ {
		draws = append(draws, drawsByChance(r, n, leaves))
	}
	return draws
}

// filled adds reads of the block that is nobody's until there are four.
func filled(steps []asked) []asked {
	for len(steps) < 4 {
		steps = append(steps, toRead(nobodys, 0))
	}
	return steps
}

// stepsNamed reads accesses, such as "r8 w8=9; ; r0; ; w8=4": four reads or
// writes, or less, of each operation, and behind all what is put back.
func stepsNamed(text string) []asked {
	var steps []asked
	for _, piece := range strings.Split(text, ";") {
		var group []asked
		for _, word := range strings.Fields(piece) {
			var id, value int
			if n, _ := fmt.Sscanf(word, "w%d=%d", &id, &value); n == 2 {
				group = append(group, toWrite(id, value, 0))
			} else if n, _ := fmt.Sscanf(word, "r%d", &id); n == 1 {
				group = append(group, toRead(id, 0))
			} else {
				panic(text)
			}
		}
		steps = append(steps, filled(group)...)
	}
	return steps
}

// plainRun does accesses one by one: the tree, and the leaves that were.
func plainRun(o impl.Oram, steps []asked, draws []int) (impl.Oram, []int) {
	var leaves []int
	for i, a := range steps {
		a.leaf = draws[i]
		leaves = append(leaves, o.Pos[a.id])
		o = plainAccess(o, a)
	}
	return o, leaves
}

// plainSteps says which accesses a transaction has, and what it tells and
// leaves in Keys; what it does to a map is what plainDo says.
func plainSteps(e impl.Enc, txn impl.Txn) (keys []int, r impl.Result, steps []asked) {
	keys, values := slices.Clone(e.Keys), plainValues(e.Oram)
	var back []asked
	for i := range 4 {
		var group []asked
		if i < len(txn.Ops) && r.Code == 0 {
			m := plainMapOf(keys, values)
			next, told, code := plainDo(m, txn.Ops[i])
			group = plainOpSteps(keys, txn.Ops[i], next, told, code)
			for _, a := range group {
				if a.write {
					back = append([]asked{toWrite(a.id, values[a.id], 0)}, back...)
					values[a.id] = a.value
				}
			}
			r.Code, r.Values = code, append(r.Values, told...)
		}
		steps = append(steps, filled(group)...)
	}
	if r.Code == 0 {
		return keys, r, append(steps, filled(nil)...)
	}
	return slices.Clone(e.Keys), impl.Result{Code: r.Code}, append(steps, filled(back)...)
}

// plainOpSteps says which accesses an operation needs, where next is the map
// then, and changes keys.
func plainOpSteps(keys []int, o impl.Op, next []impl.Entry, told []int, code int) []asked {
	var steps []asked
	id := slices.Index(keys, o.Key)
	there := id >= 0
	kind := plainKind(o)
	if kind == "scan" {
		for i := 0; i < len(told); i += 2 {
			if told[i] != 0 {
				steps = append(steps, toRead(slices.Index(keys, told[i]), 0))
			}
		}
		return steps
	}
	if there && (kind == "get" || kind == "check" || kind == "add") {
		steps = append(steps, toRead(id, 0))
	}
	if there && kind == "drop" {
		steps = append(steps, toWrite(id, 0, 0))
		keys[id] = 0
	}
	if code == 0 && (kind == "put" || kind == "add") {
		if !there {
			id = slices.Index(keys, 0)
			keys[id] = o.Key
		}
		at := slices.IndexFunc(next, func(entry impl.Entry) bool { return entry.Key == o.Key })
		steps = append(steps, toWrite(id, next[at].Value, 0))
	}
	return steps
}

func plainEncTxn(e impl.Enc, txn impl.Txn, draws []int) (impl.Enc, impl.Result, []int) {
	keys, r, steps := plainSteps(e, txn)
	o, leaves := plainRun(e.Oram, steps, draws)
	return impl.Enc{Keys: keys, Oram: o}, r, leaves
}

func plainEncBatch(e impl.Enc, list []impl.Txn, draws []int) (impl.Enc, []impl.Result, []int) {
	var results []impl.Result
	var all []int
	for i := range 2 {
		var txn impl.Txn
		if i < len(list) {
			txn = list[i]
		}
		x, r, leaves := plainEncTxn(e, txn, draws[20*i:20*i+20])
		e, all = x, append(all, leaves...)
		if i < len(list) {
			results = append(results, r)
		}
	}
	return e, results, all
}

func newEnc(t *testing.T, leaves []int) impl.Enc {
	t.Helper()
	e, code := impl.NewEnc(leaves)
	if code != impl.OK || !impl.EncOK(e) {
		t.Fatalf("NewEnc %v: %d", leaves, code)
	}
	return e
}

func noEnc(t *testing.T, leaves []int, want int) {
	t.Helper()
	if e, code := impl.NewEnc(leaves); !isZeroEnc(e) || code != want {
		t.Errorf("NewEnc of %d leaves, %.80s: %v %d, not %d", len(leaves), fmt.Sprint(leaves), e, code, want)
	}
}

func mapOfIs(t *testing.T, e impl.Enc, want []impl.Entry) {
	t.Helper()
	if m, code := impl.MapOf(e); !slices.Equal(m, want) || code != impl.OK || !impl.MapOK(m) {
		t.Errorf("MapOf %v: %v %d, not %v", e, m, code, want)
	}
}

func noMapOf(t *testing.T, name string, e impl.Enc) {
	t.Helper()
	if m, code := impl.MapOf(e); len(m) != 0 || code != impl.ErrBad {
		t.Errorf("MapOf, %s: %v %d", name, m, code)
	}
}

func encTxnIs(t *testing.T, e impl.Enc, txn impl.Txn, draws []int, want impl.Enc, wantResult impl.Result, wantLeaves []int) {
	t.Helper()
	x, r, leaves, code := impl.EncTxn(e, txn, draws)
	if code != impl.OK || !alikeResult(r, wantResult) || !slices.Equal(leaves, wantLeaves) || !impl.EncOK(x) {
		t.Errorf("EncTxn %v %v %v: %v %v %d, not %v %v", e, txn, draws, r, leaves, code, wantResult, wantLeaves)
		return
	}
	if diff := unlikeEncs(x, want); diff != "" {
		t.Errorf("EncTxn %v %v %v: %s", e, txn, draws, diff)
	}
}

func encTxnAsPlain(t *testing.T, e impl.Enc, txn impl.Txn, draws []int) {
	t.Helper()
	want, r, leaves := plainEncTxn(e, txn, draws)
	encTxnIs(t, e, txn, draws, want, r, leaves)
}

func noEncTxn(t *testing.T, name string, e impl.Enc, txn impl.Txn, draws []int, want int) {
	t.Helper()
	if x, r, leaves, code := impl.EncTxn(e, txn, draws); !isZeroEnc(x) || !isZeroResult(r) || len(leaves) != 0 || code != want {
		t.Errorf("EncTxn, %s: %v %v %v %d, not %d", name, x, r, leaves, code, want)
	}
}

func encBatchIs(t *testing.T, e impl.Enc, list []impl.Txn, draws []int, want impl.Enc, wantResults []impl.Result, wantLeaves []int) {
	t.Helper()
	x, results, leaves, code := impl.EncBatch(e, list, draws)
	if code != impl.OK || !slices.EqualFunc(results, wantResults, alikeResult) || !slices.Equal(leaves, wantLeaves) || !impl.EncOK(x) {
		t.Errorf("EncBatch %v %v %v: %v %v %d, not %v %v", e, list, draws, results, leaves, code, wantResults, wantLeaves)
		return
	}
	if diff := unlikeEncs(x, want); diff != "" {
		t.Errorf("EncBatch %v %v %v: %s", e, list, draws, diff)
	}
}

func encBatchAsPlain(t *testing.T, e impl.Enc, list []impl.Txn, draws []int) {
	t.Helper()
	want, results, leaves := plainEncBatch(e, list, draws)
	encBatchIs(t, e, list, draws, want, results, leaves)
}

func noEncBatch(t *testing.T, name string, e impl.Enc, list []impl.Txn, draws []int, want int) {
	t.Helper()
	if x, results, leaves, code := impl.EncBatch(e, list, draws); !isZeroEnc(x) || len(results) != 0 || len(leaves) != 0 || code != want {
		t.Errorf("EncBatch, %s: %v %v %v %d, not %d", name, x, results, leaves, code, want)
	}
}

// stepsAre asks a transaction for its accesses, with draws of several sorts,
// alone and as the first and as the second of a batch; keys are Keys then.
func stepsAre(t *testing.T, e impl.Enc, text, result, steps string, keys []int) {
	t.Helper()
	list, named := batchNamed(text), stepsNamed(steps)
	want, right := plainReadResult(result)
	if !right || len(named) != 20 || len(list) != 1 {
		t.Fatal("no case:", text, result, steps)
	}
	for _, draws := range someDraws(20) {
		o, leaves := plainRun(e.Oram, named, draws)
		encTxnIs(t, e, list[0], draws, impl.Enc{Keys: keys, Oram: o}, want, leaves)
	}
	nothing := slices.Repeat(filled(nil), 5)
	for _, draws := range someDraws(40) {
		o, leaves := plainRun(e.Oram, slices.Concat(named, nothing), draws)
		encBatchIs(t, e, list, draws, impl.Enc{Keys: keys, Oram: o}, []impl.Result{want}, leaves)
		// A get of a key that is not there reads as a missing one does.
		o, leaves = plainRun(e.Oram, slices.Concat(nothing, named), draws)
		both := append(batchNamed("get 5555"), list...)
		encBatchIs(t, e, both, draws, impl.Enc{Keys: keys, Oram: o}, []impl.Result{{Values: []int{0, 0}}, want}, leaves)
	}
}

// keysWith are Keys with another key of some blocks.
func keysWith(e impl.Enc, changes ...int) []int {
	keys := slices.Clone(e.Keys)
	for i := 0; i < len(changes); i += 2 {
		keys[changes[i]] = changes[i+1]
	}
	return keys
}

func TestBoundsOfHiddenMaps(t *testing.T) {
	if impl.PerTxn != 20 || impl.PerBatch != 40 {
		t.Error(impl.PerTxn, impl.PerBatch)
	}
}

func TestNewEncs(t *testing.T) {
	r := rand.New(rand.NewSource(72))
	lists := [][]int{leavesInTurn(), make([]int, 12), slices.Repeat([]int{7}, 12)}
	for n := range 50 {
		lists = append(lists, drawsByChance(r, 12, 1+n%8))
	}
	for _, leaves := range lists {
		e := newEnc(t, leaves)
		if diff := unlikeEncs(e, impl.Enc{Keys: make([]int, 11), Oram: newOram(t, leaves)}); diff != "" {
			t.Errorf("NewEnc %v: %s", leaves, diff)
		}
		mapOfIs(t, e, nil)
	}
}

func TestLeavesOfNoHiddenMap(t *testing.T) {
	noEnc(t, nil, impl.ErrSize)
	noEnc(t, []int{}, impl.ErrSize)
	for _, leaf := range slices.Concat([]int{0, 7}, wrongPaths) {
		for _, n := range []int{1, 2, 10, 11, 13, 14, 20, 24, 40, impl.MaxList - 1, impl.MaxList} {
			noEnc(t, append(make([]int, n-1), leaf), impl.ErrSize)
			noEnc(t, slices.Repeat([]int{leaf}, n), impl.ErrSize)
		}
		for _, n := range []int{impl.MaxList + 1, impl.MaxList + 2, 2 * impl.MaxList} {
			noEnc(t, append(make([]int, n-1), leaf), impl.ErrLong)
			noEnc(t, slices.Repeat([]int{leaf}, n), impl.ErrLong)
		}
	}
	for _, leaf := range wrongPaths {
		for at := range 12 {
			leaves := leavesInTurn()
			leaves[at] = leaf
			noEnc(t, leaves, impl.ErrRange)
		}
		noEnc(t, slices.Repeat([]int{leaf}, 12), impl.ErrRange)
	}
	for at := range 12 {
		for leaf := range 8 {
			leaves := leavesInTurn()
			leaves[at] = leaf
			newEnc(t, leaves)
		}
	}
}

func TestRightEncs(t *testing.T) {
	for name, e := range rightEncs() {
		if !impl.EncOK(e) || !impl.EncOK(roomyEnc(e)) {
			t.Error("EncOK,", name)
		}
		mapOfIs(t, e, mapIn(e))
		encTxnAsPlain(t, e, batchNamed("get 7; put 8 8; scan 1 4; check 1 0")[0], someDraws(20)[3])
		encBatchAsPlain(t, e, batchNamed("drop 9999; put 8 8 | add 40 1; check 1 0"), someDraws(40)[3])
	}
}

func TestBadEncs(t *testing.T) {
	for name, e := range badEncs() {
		if impl.EncOK(e) {
			t.Error("EncOK,", name)
		}
		noMapOf(t, name, e)
		for _, text := range []string{"get 7", "put 7 1", "drop 7", "check 7 7", "add 7 1", "scan 1 4", "scan 1 4; get 7; put 7 1; check 7 2"} {
			list := batchNamed(text)
			noEncTxn(t, name, e, list[0], make([]int, 20), impl.ErrBad)
			noEncBatch(t, name, e, list, make([]int, 40), impl.ErrBad)
			noEncBatch(t, name, e, append(list, list...), make([]int, 40), impl.ErrBad)
		}
		noEncTxn(t, name, e, impl.Txn{}, make([]int, 20), impl.ErrBad)
		noEncBatch(t, name, e, nil, make([]int, 40), impl.ErrBad)
	}
}

// Each number at and around the bounds of keys, in each place.
func TestKeysAroundTheirBounds(t *testing.T) {
	numbers := append([]int{0, 1, 2, 9998, 9999}, wrongEncKeys...)
	for at := range 11 {
		for i, key := range numbers {
			for _, e := range []impl.Enc{emptyEnc(), {Keys: []int{21, 22, 23, 24, 25, 26, 27, 28, 29, 30, 31}, Oram: someOram()}} {
				e.Keys[at] = key
				if impl.EncOK(e) != (i < 5) {
					t.Errorf("EncOK %v: not %v", e.Keys, i < 5)
				}
			}
		}
	}
}

func TestMapsThatAreHidden(t *testing.T) {
	mapOfIs(t, emptyEnc(), nil)
	mapOfIs(t, impl.Enc{Keys: make([]int, 11), Oram: someOram()}, nil)
	mapOfIs(t, someEnc(), mapNamed("1 106, 3 105, 7 0, 12 108, 40 100, 9999 103"))
	mapOfIs(t, fullEnc(), mapNamed("1 106, 10 103, 20 101, 30 107, 50 100, 70 105, 80 110, 90 108, 100 0, 110 0, 9999 104"))
	// Of no block that is anywhere all keys have 0.
	mapOfIs(t, impl.Enc{Keys: fullEnc().Keys, Oram: oramOf(nil, nil)}, mapNamed("1 0, 10 0, 20 0, 30 0, 50 0, 70 0, 80 0, 90 0, 100 0, 110 0, 9999 0"))
	for id := range 11 {
		for _, value := range edgeCells {
			e := emptyEnc()
			e.Keys[id] = 5
			mapOfIs(t, e, mapNamed("5 0"))
			e.Oram = oramOf([]int{id, nobodys}, nil)
			e.Oram.Stash[0].Value = value
			mapOfIs(t, e, []impl.Entry{{Key: 5, Value: value}})
		}
	}
	r := rand.New(rand.NewSource(73))
	for range 200 {
		e := impl.Enc{Keys: r.Perm(11), Oram: oramByChance(r, 8)}
		mapOfIs(t, e, mapIn(e))
	}
	for _, e := range encsByChance(74, 400) {
		mapOfIs(t, e, mapIn(e))
	}
}

// By hand: the accesses of one operation; all others read the block that is
// nobody's.
func TestAccessesOfEachOp(t *testing.T) {
	some, empty, full := someEnc(), emptyEnc(), fullEnc()
	for _, c := range []struct {
		e                   impl.Enc
		text, result, steps string
		changes             []int
	}{
		{some, "get 40", "ok 1 100", "r0", nil},
		{some, "get 7", "ok 1 0", "r2", nil},
		{some, "get 9999", "ok 1 103", "r3", nil},
		{some, "get 2", "ok 0 0", "", nil},
		{some, "get 9998", "ok 0 0", "", nil},
		{empty, "get 1", "ok 0 0", "", nil},
		{full, "get 80", "ok 1 110", "r10", nil},
		{full, "get 81", "ok 0 0", "", nil},

		{some, "check 12 108", "ok", "r8", nil},
		{some, "check 7 0", "ok", "r2", nil},
		{some, "check 12 107", "check", "r8", nil},
		{some, "check 7 1", "check", "r2", nil},
		{some, "check 13 0", "check", "", nil},
		{some, "check 2 101", "check", "", nil},
		{empty, "check 1 0", "check", "", nil},
		{full, "check 1 106", "ok", "r6", nil},
		{full, "check 2 0", "check", "", nil},

		{some, "drop 3", "ok 1", "w5=0", []int{5, 0}},
		{some, "drop 7", "ok 1", "w2=0", []int{2, 0}},
		{some, "drop 9999", "ok 1", "w3=0", []int{3, 0}},
		{some, "drop 4", "ok 0", "", nil},
		{empty, "drop 1", "ok 0", "", nil},
		{full, "drop 50", "ok 1", "w0=0", []int{0, 0}},
		{full, "drop 80", "ok 1", "w10=0", []int{10, 0}},
		{full, "drop 2", "ok 0", "", nil},

		{some, "put 40 5", "ok", "w0=5", nil},
		{some, "put 40 100", "ok", "w0=100", nil},
		{some, "put 7 999999", "ok", "w2=999999", nil},
		{some, "put 2 5", "ok", "w1=5", []int{1, 2}},
		{some, "put 9998 0", "ok", "w1=0", []int{1, 9998}},
		{empty, "put 9999 1", "ok", "w0=1", []int{0, 9999}},
		{full, "put 9999 1", "ok", "w4=1", nil},
		{full, "put 80 0", "ok", "w10=0", nil},
		{full, "put 2 5", "full", "", nil},

		{some, "add 12 5", "ok 113", "r8 w8=113", nil},
		{some, "add 12 0", "ok 108", "r8 w8=108", nil},
		{some, "add 7 999999", "ok 999999", "r2 w2=999999", nil},
		{some, "add 12 999891", "ok 999999", "r8 w8=999999", nil},
		{some, "add 12 999892", "range", "r8", nil},
		{some, "add 12 999999", "range", "r8", nil},
		{some, "add 2 5", "ok 5", "w1=5", []int{1, 2}},
		{some, "add 2 999999", "ok 999999", "w1=999999", []int{1, 2}},
		{empty, "add 1 0", "ok 0", "w0=0", []int{0, 1}},
		{full, "add 1 4", "ok 110", "r6 w6=110", nil},
		{full, "add 1 999999", "range", "r6", nil},
		{full, "add 2 4", "full", "", nil},
		{full, "add 2 999999", "full", "", nil},

		{some, "scan 1 1", "ok 1 106", "r6", nil},
		{some, "scan 1 2", "ok 1 106 3 105", "r6 r5", nil},
		{some, "scan 1 3", "ok 1 106 3 105 7 0", "r6 r5 r2", nil},
		{some, "scan 1 4", "ok 1 106 3 105 7 0 12 108", "r6 r5 r2 r8", nil},
		{some, "scan 2 4", "ok 3 105 7 0 12 108 40 100", "r5 r2 r8 r0", nil},
		{some, "scan 8 1", "ok 12 108", "r8", nil},
		{some, "scan 8 3", "ok 12 108 40 100 9999 103", "r8 r0 r3", nil},
		{some, "scan 8 4", "ok 12 108 40 100 9999 103 0 0", "r8 r0 r3", nil},
		{some, "scan 40 3", "ok 40 100 9999 103 0 0", "r0 r3", nil},
		{some, "scan 41 1", "ok 9999 103", "r3", nil},
		{some, "scan 41 4", "ok 9999 103 0 0 0 0 0 0", "r3", nil},
		{some, "scan 9999 2", "ok 9999 103 0 0", "r3", nil},
		{empty, "scan 1 1", "ok 0 0", "", nil},
		{empty, "scan 9999 4", "ok 0 0 0 0 0 0 0 0", "", nil},
		{full, "scan 1 4", "ok 1 106 10 103 20 101 30 107", "r6 r3 r1 r7", nil},
		{full, "scan 91 4", "ok 100 0 110 0 9999 104 0 0", "r9 r2 r4", nil},
	} {
		stepsAre(t, c.e, c.text, c.result, c.steps+";;;;", keysWith(c.e, c.changes...))
	}
}

// A drop of the last key leaves no key behind, so that a scan finds none.
func TestScansOfNoKeys(t *testing.T) {
	e := impl.Enc{Keys: keysWith(emptyEnc(), 4, 9998), Oram: someOram()}
	for n := 1; n <= 4; n++ {
		nothing := strings.Repeat(" 0", 2*n)
		stepsAre(t, e, fmt.Sprint("scan 9999 ", n), "ok"+nothing, ";;;;", e.Keys)
		stepsAre(t, e, fmt.Sprint("drop 9998; scan 1 ", n), "ok 1"+nothing, "w4=0;;;;", keysWith(e, 4, 0))
		stepsAre(t, e, fmt.Sprint("scan 9998 ", n), "ok 9998 104"+nothing[4:], "r4;;;;", e.Keys)
	}
}

// By hand: each operation has its four accesses, as many operations as there
// are; the last four read the block that is nobody's.
func TestAccessesOfSeveralOps(t *testing.T) {
	some, empty, full := someEnc(), emptyEnc(), fullEnc()
	for _, c := range []struct {
		e                   impl.Enc
		text, result, steps string
		changes             []int
	}{
		{some, "get 40; get 7", "ok 1 100 1 0", "r0; r2;;;", nil},
		{some, "get 40; get 2; get 7", "ok 1 100 0 0 1 0", "r0;; r2;;", nil},
		{some, "get 2; get 4; get 5; get 40", "ok 0 0 0 0 0 0 1 100", ";;; r0;", nil},
		{some, "scan 1 4; scan 1 4; scan 8 4; scan 9999 1", "ok 1 106 3 105 7 0 12 108 1 106 3 105 7 0 12 108 12 108 40 100 9999 103 0 0 9999 103", "r6 r5 r2 r8; r6 r5 r2 r8; r8 r0 r3; r3;", nil},
		{some, "put 2 5; get 2", "ok 1 5", "w1=5; r1;;;", []int{1, 2}},
		{some, "put 2 5; put 4 6; put 5 7; put 6 8", "ok", "w1=5; w4=6; w7=7; w9=8;", []int{1, 2, 4, 4, 7, 5, 9, 6}},
		{some, "put 2 5; put 2 6; add 2 1; check 2 7", "ok 7", "w1=5; w1=6; r1 w1=7; r1;", []int{1, 2}},
		{empty, "put 9 1; put 8 2; add 7 3; scan 1 3", "ok 3 7 3 8 2 9 1", "w0=1; w1=2; w2=3; r2 r1 r0;", []int{0, 9, 1, 8, 2, 7}},
		// The block of a key that is dropped is the first that is nobody's, or
		// another one is.
		{some, "drop 40; put 2 5; put 4 6", "ok 1", "w0=0; w0=5; w1=6;;", []int{0, 2, 1, 4}},
		{some, "drop 12; put 2 5; put 4 6", "ok 1", "w8=0; w1=5; w4=6;;", []int{8, 0, 1, 2, 4, 4}},
		{some, "drop 40; put 40 5", "ok 1", "w0=0; w0=5;;;", nil},
		{some, "drop 12; put 12 5", "ok 1", "w8=0; w1=5;;;", []int{8, 0, 1, 12}},
		{some, "drop 12; add 12 5; get 12", "ok 1 5 1 5", "w8=0; w1=5; r1;;", []int{8, 0, 1, 12}},
		{some, "put 2 5; drop 2; put 4 6; drop 2", "ok 1 0", "w1=5; w1=0; w1=6;;", []int{1, 4}},
		{some, "drop 3; drop 3; get 3; check 40 100", "ok 1 0 0 0", "w5=0;;; r0;", []int{5, 0}},
		{some, "drop 40; drop 1; drop 7; put 5 5", "ok 1 1 1", "w0=0; w6=0; w2=0; w0=5;", []int{0, 5, 6, 0, 2, 0}},
		{full, "drop 70; put 2 5; scan 1 3; get 70", "ok 1 1 106 2 5 10 103 0 0", "w5=0; w5=5; r6 r5 r3;;", []int{5, 2}},
		{full, "drop 80; drop 50; add 3 1; add 2 2", "ok 1 1 1 2", "w10=0; w0=0; w0=1; w10=2;", []int{0, 3, 10, 2}},
		{full, "put 50 0; add 50 0; add 50 999999; check 50 999999", "ok 0 999999", "w0=0; r0 w0=0; r0 w0=999999; r0;", nil},
	} {
		stepsAre(t, c.e, c.text, c.result, c.steps, keysWith(c.e, c.changes...))
	}
}

// By hand: behind a code nothing more is done, and what was written is written
// with what there was, from the last one on; Keys are as they were.
func TestWhatIsPutBackBehindACode(t *testing.T) {
	some, empty, full := someEnc(), emptyEnc(), fullEnc()
	for _, c := range []struct {
		e                   impl.Enc
		text, result, steps string
	}{
		// Nothing was written.
		{some, "check 5 5; put 2 1; drop 40; get 1", "check", ";;;;"},
		{some, "check 40 5; put 2 1; drop 40; get 1", "check", "r0;;;;"},
		{some, "get 40; scan 1 4; check 7 0; check 7 1", "check", "r0; r6 r5 r2 r8; r2; r2;"},
		{some, "get 40; drop 4; check 7 1; put 7 1", "check", "r0;; r2;;"},
		{some, "get 40; add 12 999892; put 7 1; put 2 5", "range", "r0; r8;;;"},
		{full, "put 2 1; put 50 2; drop 20; drop 1", "full", ";;;;"},
		{full, "add 50 999999; drop 50; put 2 1", "range", "r0;;;;"},
		{empty, "scan 1 4; check 1 0; put 1 1", "check", ";;;;"},
		// One block was written.
		{some, "put 2 5; check 2 6", "check", "w1=5; r1;;; w1=101"},
		{some, "put 2 5; check 3 6; drop 40; get 1", "check", "w1=5; r5;;; w1=101"},
		{some, "get 40; put 7 5; check 2 6; get 40", "check", "r0; w2=5;;; w2=0"},
		{some, "get 1; get 3; drop 40; check 40 100", "check", "r6; r5; w0=0;; w0=100"},
		{some, "add 12 1; get 1; get 12; check 12 108", "check", "r8 w8=109; r6; r8; r8; w8=108"},
		{some, "add 2 9; add 2 999991", "range", "w1=9; r1;;; w1=101"},
		{empty, "put 9 9; check 9 8", "check", "w0=9; r0;;; w0=0"},
		{full, "drop 20; put 2 1; put 3 1", "full", "w1=0; w1=1;;; w1=0 w1=101"},
		// Two.
		{some, "put 2 5; drop 40; check 40 100; put 4 4", "check", "w1=5; w0=0;;; w0=100 w1=101"},
		{some, "drop 12; put 2 5; get 2; check 2 6", "check", "w8=0; w1=5; r1; r1; w1=101 w8=108"},
		{some, "put 40 1; get 2; add 3 2; check 2 6", "check", "w0=1;; r5 w5=107;; w5=105 w0=100"},
		{full, "put 1 1; drop 50; put 2 2; put 3 3", "full", "w6=1; w0=0; w0=2;; w0=0 w0=100 w6=106"},
		// Three.
		{some, "put 40 1; put 3 2; put 1 3; check 1 4", "check", "w0=1; w5=2; w6=3; r6; w6=106 w5=105 w0=100"},
		{some, "put 2 1; put 4 2; put 5 3; check 7 1", "check", "w1=1; w4=2; w7=3; r2; w7=107 w4=104 w1=101"},
		{some, "drop 7; add 12 2; put 2 3; check 7 0", "check", "w2=0; r8 w8=110; w1=3;; w1=101 w8=108 w2=0"},
		{empty, "add 3 1; add 2 2; add 1 3; add 3 999999", "range", "w0=1; w1=2; w2=3; r0; w2=0 w1=0 w0=0"},
		{full, "drop 50; put 2 9; drop 80; check 80 0", "check", "w0=0; w0=9; w10=0;; w10=110 w0=0 w0=100"},
		// One block more than once.
		{some, "put 40 1; put 40 2; check 40 3", "check", "w0=1; w0=2; r0;; w0=1 w0=100"},
		{some, "put 40 1; put 40 2; put 40 3; check 40 4", "check", "w0=1; w0=2; w0=3; r0; w0=2 w0=1 w0=100"},
		{some, "put 2 5; put 2 6; drop 2; check 2 0", "check", "w1=5; w1=6; w1=0;; w1=6 w1=5 w1=101"},
		{some, "drop 40; put 2 9; add 12 1; check 1 1", "check", "w0=0; w0=9; r8 w8=109; r6; w8=108 w0=0 w0=100"},
		{some, "put 40 1; put 3 2; put 40 3; check 40 4", "check", "w0=1; w5=2; w0=3; r0; w0=1 w5=105 w0=100"},
		{some, "drop 40; put 40 1; drop 40; check 40 1", "check", "w0=0; w0=1; w0=0;; w0=1 w0=0 w0=100"},
		{some, "add 12 1; add 12 1; add 12 1; add 12 999999", "range", "r8 w8=109; r8 w8=110; r8 w8=111; r8; w8=110 w8=109 w8=108"},
	} {
		stepsAre(t, c.e, c.text, c.result, c.steps, c.e.Keys)
		// Promise 12: what there was is there.
		for _, draws := range someDraws(20) {
			x, _, _, _ := impl.EncTxn(c.e, batchNamed(c.text)[0], draws)
			mapOfIs(t, x, mapIn(c.e))
			if !slices.Equal(plainValues(x.Oram), plainValues(c.e.Oram)) {
				t.Errorf("EncTxn %v %s: values %v", c.e, c.text, plainValues(x.Oram))
			}
		}
	}
}

// A transaction of one operation is that one and three that are missing.
func TestFewOpsAndMany(t *testing.T) {
	for _, e := range []impl.Enc{emptyEnc(), someEnc(), fullEnc()} {
		for n := 1; n <= 4; n++ {
			for _, text := range []string{"get 40", "get 5", "put 40 1", "put 5 1", "drop 50", "check 40 100", "check 50 100", "add 50 1", "scan 1 3"} {
				list := batchNamed(strings.Join(slices.Repeat([]string{text}, n), "; "))
				for _, draws := range someDraws(20) {
					encTxnAsPlain(t, e, list[0], draws)
				}
			}
		}
	}
}

// The blocks that have a key have a leaf each, and all draws are 7, so that a
// leaf below 7 tells which block is met for the first time.
func TestWhereBlocksAreMet(t *testing.T) {
	e := impl.Enc{Keys: []int{5, 6, 7, 8, 0, 0, 0, 0, 0, 0, 0}, Oram: oramWith([]int{1, 2, 3, 4, 6, 6, 6, 6, 6, 6, 6, 5}, nil, nil)}
	sevens := slices.Repeat([]int{7}, 20)
	for text, want := range map[string][]int{
		"scan 5 4":                      {1, 2, 3, 4, 5},
		"get 5":                         {1, 5},
		"scan 7 4":                      {3, 4, 5},
		"get 9":                         {5},
		"get 9; get 9; get 9; scan 5 4": {5, 7, 7, 7, 7, 7, 7, 7, 7, 7, 7, 7, 1, 2, 3, 4},
		"scan 5 4; get 9":               {1, 2, 3, 4, 5},
		"scan 5 4; put 9 1; check 1 1":  {1, 2, 3, 4, 6, 5},
		"get 6; get 5; get 8; get 7":    {2, 5, 7, 7, 1, 7, 7, 7, 4, 7, 7, 7, 3},
		"add 8 1; drop 6; check 5 9":    {4, 7, 5, 7, 2, 7, 7, 7, 1},
	} {
		_, _, leaves, code := impl.EncTxn(e, batchNamed(text)[0], sevens)
		for len(want) < 20 {
			want = append(want, 7)
		}
		if code != impl.OK || !slices.Equal(leaves, want) {
			t.Errorf("EncTxn %s: leaves %v %d, not %v", text, leaves, code, want)
		}
	}
}

// By hand: the accesses of both transactions.
func TestAccessesOfBatches(t *testing.T) {
	some, empty, full := someEnc(), emptyEnc(), fullEnc()
	none := "ok 0 0"
	for _, c := range []struct {
		e           impl.Enc
		text, steps string
		results     []string
		changes     []int
	}{
		{some, "get 40", "r0;;;; ;;;;;", []string{"ok 1 100"}, nil},
		{some, "get 2", ";;;; ;;;;;", []string{none}, nil},
		{some, "check 2 2", ";;;; ;;;;;", []string{"check"}, nil},
		{some, "put 2 5; check 2 6", "w1=5; r1;;; w1=101; ;;;;", []string{"check"}, nil},
		{some, "get 40 | get 7", "r0;;;;; r2;;;;", []string{"ok 1 100", "ok 1 0"}, nil},
		{some, "put 2 5 | get 2; put 4 6", "w1=5;;;;; r1; w4=6;;;", []string{"ok", "ok 1 5"}, []int{1, 2, 4, 4}},
		{some, "drop 40 | get 40; put 2 6", "w0=0;;;;;; w0=6;;;", []string{"ok 1", none}, []int{0, 2}},
		// The first ends with a code: the second sees what was ahead of it.
		{some, "put 2 5; check 2 6 | get 2; put 2 7", "w1=5; r1;;; w1=101;; w1=7;;;", []string{"check", none}, []int{1, 2}},
		{some, "drop 40; check 2 6 | get 40", "w0=0;;;; w0=100; r0;;;;", []string{"check", "ok 1 100"}, nil},
		{full, "drop 50; put 2 1; put 3 1 | put 2 1; get 50", "w0=0; w0=1;;; w0=0 w0=100; ;;;;", []string{"full", "full"}, nil},
		// The second does: what the first did stays.
		{some, "put 2 5 | put 2 6; put 4 7; check 2 5", "w1=5;;;;; w1=6; w4=7; r1;; w4=104 w1=5", []string{"ok", "check"}, []int{1, 2}},
		{some, "drop 40; add 12 1 | put 40 5; drop 12; check 12 109", "w0=0; r8 w8=109;;;; w0=5; w8=0;;; w8=109 w0=0", []string{"ok 1 109", "check"}, []int{0, 0}},
		{empty, "put 1 1; put 2 2; put 3 3; put 4 4 | add 1 1; add 2 1; add 3 1; add 4 999999", "w0=1; w1=2; w2=3; w3=4;; r0 w0=2; r1 w1=3; r2 w2=4; r3; w2=3 w1=2 w0=1", []string{"ok", "range"}, []int{0, 1, 1, 2, 2, 3, 3, 4}},
		// Both do.
		{some, "put 2 5; check 2 6 | put 4 5; drop 40; check 4 6", "w1=5; r1;;; w1=101; w1=5; w0=0; r1;; w0=100 w1=101", []string{"check", "check"}, nil},
		{full, "put 50 1; put 2 1 | put 50 2; put 50 3; add 2 1", "w0=1;;;; w0=100; w0=2; w0=3;;; w0=2 w0=100", []string{"full", "full"}, nil},
		{empty, "check 1 1 | check 1 1", ";;;; ;;;;;", []string{"check", "check"}, nil},
	} {
		named, keys := stepsNamed(c.steps), keysWith(c.e, c.changes...)
		if len(named) != 40 {
			t.Fatal("no case:", c.steps)
		}
		var want []impl.Result
		for _, text := range c.results {
			r, right := plainReadResult(text)
			if !right {
				t.Fatal("no case:", text)
			}
			want = append(want, r)
		}
		for _, draws := range someDraws(40) {
			o, leaves := plainRun(c.e.Oram, named, draws)
			encBatchIs(t, c.e, batchNamed(c.text), draws, impl.Enc{Keys: keys, Oram: o}, want, leaves)
		}
	}
}

// A batch is its transactions one by one, with the first and the last draws.
func TestBatchesAreTheirTransactions(t *testing.T) {
	r := rand.New(rand.NewSource(75))
	for _, e := range encsByChance(76, 1500) {
		draws := drawsByChance(r, 40, 8)
		list := nearBatch(r, mapIn(e))
		x, first, leaves, code := impl.EncTxn(e, list[0], draws[:20])
		results := []impl.Result{first}
		if code != impl.OK {
			t.Fatal("EncTxn", code)
		}
		if len(list) == 2 {
			y, second, more, code := impl.EncTxn(x, list[1], draws[20:])
			if code != impl.OK {
				t.Fatal("EncTxn", code)
			}
			encBatchIs(t, e, list, draws, y, append(results, second), append(leaves, more...))
			continue
		}
		// A missing one is as one that asks for nothing that is there.
		y, _, more, _ := impl.EncTxn(x, plainNothing(x), draws[20:])
		encBatchIs(t, e, list, draws, y, results, append(leaves, more...))
	}
}

// plainNothing gets a key that is not there.
func plainNothing(e impl.Enc) impl.Txn {
	key := 1
	for slices.Contains(e.Keys, key) {
		key++
	}
	return impl.Txn{Ops: []impl.Op{{Kind: impl.OpGet, Key: key}}}
}

// nearBatch draws transactions that meet the keys of a map.
func nearBatch(r *rand.Rand, m []impl.Entry) []impl.Txn {
	list := make([]impl.Txn, 1+r.Intn(2))
	for i := range list {
		for range 1 + r.Intn(4) {
			o := nearOp(r, m)
			list[i].Ops = append(list[i].Ops, o)
			m, _, _ = plainDo(m, o)
		}
	}
	return list
}

func TestDrawsOfAnotherNumber(t *testing.T) {
	list := batchNamed("put 2 5; get 2 | get 40")
	for _, n := range []int{0, 1, 4, 16, 19, 20, 21, 24, 39, 40, 41, 60, 80, 100, impl.MaxList - 1, impl.MaxList, impl.MaxList + 1, impl.MaxList + 20, 2 * impl.MaxList} {
		want := map[bool]int{true: impl.ErrLong, false: impl.ErrTape}[n > impl.MaxList]
		name := fmt.Sprint(n, " draws")
		for _, draw := range []int{0, 7, -1, 8, math.MinInt, math.MaxInt} {
			draws := slices.Repeat([]int{draw}, n)
			for _, e := range []impl.Enc{someEnc(), {}} {
				if n != 20 {
					noEncTxn(t, name, e, list[0], draws, want)
					noEncTxn(t, name, e, impl.Txn{}, draws, want)
				}
				if n != 40 {
					noEncBatch(t, name, e, list, draws, want)
					noEncBatch(t, name, e, list[:1], draws, want)
					noEncBatch(t, name, e, nil, draws, want)
					noEncBatch(t, name, e, make([]impl.Txn, impl.MaxList), draws, want)
				}
			}
		}
	}
	noEncTxn(t, "nil", someEnc(), list[0], nil, impl.ErrTape)
	noEncBatch(t, "nil", someEnc(), list, nil, impl.ErrTape)
	encTxnAsPlain(t, someEnc(), list[0], make([]int, 20))
	encBatchAsPlain(t, someEnc(), list, make([]int, 40))
	encBatchAsPlain(t, someEnc(), list[:1], make([]int, 40))
}

// Each draw is asked for its bounds, also such as read the block that is
// nobody's, and those of a missing transaction.
func TestDrawsThatAreNoLeaves(t *testing.T) {
	list := batchNamed("put 2 5; check 2 6")
	for _, draw := range wrongPaths {
		for at := range 40 {
			draws := slices.Clone(someDraws(40)[2])
			draws[at] = draw
			name := fmt.Sprintf("%d at %d", draw, at)
			for _, e := range []impl.Enc{someEnc(), {}} {
				noEncBatch(t, name, e, list, draws, impl.ErrRange)
				noEncBatch(t, name, e, slices.Repeat(list, 2), draws, impl.ErrRange)
				noEncBatch(t, name, e, nil, draws, impl.ErrRange)
				if at < 20 {
					noEncTxn(t, name, e, list[0], draws[:20], impl.ErrRange)
					noEncTxn(t, name, e, impl.Txn{}, draws[:20], impl.ErrRange)
				}
			}
		}
		noEncTxn(t, "all", someEnc(), list[0], slices.Repeat([]int{draw}, 20), impl.ErrRange)
		noEncBatch(t, "all", someEnc(), list, slices.Repeat([]int{draw}, 40), impl.ErrRange)
	}
	for at := range 40 {
		for leaf := range 8 {
			draws := make([]int, 40)
			draws[at] = leaf
			encBatchAsPlain(t, someEnc(), list, draws)
			encTxnAsPlain(t, someEnc(), list[0], draws[:20])
		}
	}
}

func TestTransactionsThatAreNotRightForAHiddenMap(t *testing.T) {
	draws := make([]int, 20)
	o := impl.Op{Kind: impl.OpDrop, Key: 40}
	for _, e := range []impl.Enc{emptyEnc(), someEnc(), fullEnc()} {
		for _, n := range []int{0, 5, 6, 8, impl.MaxList, impl.MaxList + 1} {
			noEncTxn(t, fmt.Sprint(n, " operations"), e, impl.Txn{Ops: slices.Repeat([]impl.Op{o}, n)}, draws, impl.ErrBad)
		}
		noEncTxn(t, "an empty list", e, impl.Txn{Ops: []impl.Op{}}, draws, impl.ErrBad)
	}
	for _, bad := range badOps() {
		for n := range 4 {
			for at := range n + 1 {
				// A code ahead of it does not hide what is not right.
				for _, other := range []impl.Op{o, {Kind: impl.OpCheck, Key: 2, Value: 1}} {
					ops := slices.Repeat([]impl.Op{other}, n+1)
					ops[at] = bad
					noEncTxn(t, fmt.Sprint(bad, " at ", at), someEnc(), impl.Txn{Ops: ops}, draws, impl.ErrBad)
				}
			}
		}
	}
	for name, list := range badBatches() {
		noEncBatch(t, name, someEnc(), list, make([]int, 40), impl.ErrBad)
		noEncBatch(t, name, emptyEnc(), list, make([]int, 40), impl.ErrBad)
	}
}

// Which code is told where several fit: that a list is long, the number of
// draws, a draw, and what else is not right.
func TestWhichCodeOfHiddenMapsIsFirst(t *testing.T) {
	encs := map[bool]impl.Enc{true: someEnc(), false: {Keys: []int{1, 1}, Oram: oramOf([]int{3, 3}, nil)}}
	for encRight, e := range encs {
		for n, wantDraws := range map[int]int{0: impl.ErrTape, 19: impl.ErrTape, 41: impl.ErrTape, impl.MaxList: impl.ErrTape, impl.MaxList + 1: impl.ErrLong, 20: 0, 40: 0} {
			for _, draw := range []int{3, 8} {
				draws := slices.Repeat([]int{draw}, n)
				for name, txn := range map[string]impl.Txn{"right": batchNamed("get 40")[0], "bad": {}, "long": {Ops: make([]impl.Op, impl.MaxList+1)}} {
					want := firstOf(wantDraws, n, 20, draw, encRight && name == "right")
					if want != impl.OK {
						noEncTxn(t, fmt.Sprint(encRight, n, draw, name), e, txn, draws, want)
					} else {
						encTxnAsPlain(t, e, txn, draws)
					}
				}
				for name, list := range map[string][]impl.Txn{"right": batchNamed("get 40"), "bad": {{}}, "none": nil, "many": slices.Repeat(batchNamed("get 40"), 3), "most": make([]impl.Txn, impl.MaxList), "long": make([]impl.Txn, impl.MaxList+1), "longer": slices.Repeat(batchNamed("get 40"), 10000)} {
					want := firstOf(wantDraws, n, 40, draw, encRight && name == "right")
					if strings.HasPrefix(name, "long") {
						want = impl.ErrLong
					}
					if want != impl.OK {
						noEncBatch(t, fmt.Sprint(encRight, n, draw, name), e, list, draws, want)
					} else {
						encBatchAsPlain(t, e, list, draws)
					}
				}
			}
		}
	}
}

func firstOf(wantDraws, n, most, draw int, right bool) int {
	switch {
	case wantDraws != 0:
		return wantDraws
	case n != most:
		return impl.ErrTape
	case draw > 7:
		return impl.ErrRange
	case !right:
		return impl.ErrBad
	}
	return impl.OK
}

// All transactions of a few operations that meet each other, some of them with
// a code, on maps with room and without.
func TestHiddenTransactionsOfFewOps(t *testing.T) {
	var ops []impl.Op
	for _, text := range []string{"put 5 1", "drop 5", "add 5 999998", "check 5 1", "put 6 0", "get 6", "scan 5 2"} {
		ops = append(ops, opNamed(text))
	}
	five := impl.Enc{Keys: keysWith(emptyEnc(), 6, 5), Oram: someOram()}
	ten := impl.Enc{Keys: []int{1, 2, 3, 4, 0, 7, 8, 9, 10, 11, 12}, Oram: someOram()}
	draws := someDraws(20)
	for _, e := range []impl.Enc{emptyEnc(), five, ten} {
		for n := 1; n <= 4; n++ {
			for i, list := range picks(ops, n) {
				encTxnAsPlain(t, e, impl.Txn{Ops: list}, draws[i%len(draws)])
			}
		}
	}
}

// Promise 12, the theorem of the hidden map: runs answer, and leave, what they
// do in a map, whatever is drawn.
func TestHiddenRunsByChance(t *testing.T) {
	r := rand.New(rand.NewSource(77))
	codes, fullest := map[int]int{}, 0
	for run := range 40 {
		// The fewer leaves are drawn, the more blocks are in each other's way.
		e, m := newEnc(t, drawsByChance(r, 12, 1+run%8)), []impl.Entry(nil)
		for i := range 60 {
			list, draws := nearBatch(r, m), drawsByChance(r, 40, 1+run%8)
			if i < 2 {
				// So that maps are full now and then.
				list = batchNamed([]string{"put 2 0; put 4 9; put 6 9 | put 8 9; put 10 0; put 12 1", "put 1 9; put 3 7; put 14 1 | put 5 9; put 9 9"}[i])
			}
			encBatchAsPlain(t, e, list, draws)
			encTxnAsPlain(t, e, list[0], draws[:20])
			x, results, _, code := impl.EncBatch(e, list, draws)
			next, want, wantCode := impl.MapBatch(m, list)
			if code != impl.OK || wantCode != impl.OK || !slices.EqualFunc(results, want, alikeResult) {
				t.Fatalf("EncBatch %v: %v %d, not %v", list, results, code, want)
			}
			mapOfIs(t, x, next)
			one, r1, _, _ := impl.EncTxn(e, list[0], draws[20:])
			oneNext, want1, _ := impl.MapTxn(m, list[0])
			if !alikeResult(r1, want1) {
				t.Fatalf("EncTxn %v: %v, not %v", list[0], r1, want1)
			}
			mapOfIs(t, one, oneNext)
			e, m = x, next
			for _, result := range results {
				codes[result.Code]++
			}
			fullest = max(fullest, len(m))
		}
	}
	if codes[impl.OK] < 500 || codes[impl.ErrCheck] < 50 || codes[impl.ErrFull] < 50 || codes[impl.ErrRange] < 50 || fullest != 11 {
		t.Error("drawn:", codes, fullest)
	}
}

// The same on hidden maps that no run comes to.
func TestHiddenTransactionsByChance(t *testing.T) {
	r := rand.New(rand.NewSource(78))
	for _, e := range encsByChance(79, 3000) {
		m := mapIn(e)
		list, draws := nearBatch(r, m), drawsByChance(r, 40, 1+r.Intn(8))
		encBatchAsPlain(t, e, list, draws)
		encTxnAsPlain(t, e, list[0], draws[:20])
		next, want := plainBatch(m, list)
		for range 3 {
			draws := drawsByChance(r, 40, 8)
			x, results, _, code := impl.EncBatch(e, list, draws)
			if code != impl.OK || !slices.EqualFunc(results, want, alikeResult) {
				t.Fatalf("EncBatch %v %v: %v %d, not %v", e, list, results, code, want)
			}
			mapOfIs(t, x, next)
		}
	}
}

// Promise 12, the theorem of hidden ways: as many leaves are read whatever is
// asked, and a draw is told in one place at most, behind its own access.
func TestHiddenWays(t *testing.T) {
	r := rand.New(rand.NewSource(80))
	toldLater, nowhereTold := 0, 0
	for _, e := range encsByChance(81, 400) {
		list, draws := nearBatch(r, mapIn(e)), drawsByChance(r, 40, 8)
		x, results, leaves, code := impl.EncBatch(e, list, draws)
		if code != impl.OK || len(leaves) != 40 {
			t.Fatal("EncBatch", code, leaves)
		}
		if other, _, more, _ := impl.EncTxn(e, list[0], draws[:20]); len(more) != 20 || !slices.Equal(more, leaves[:20]) {
			t.Error("EncTxn", other, more, leaves)
		}
		for range 20 {
			at := r.Intn(40)
			changed := slices.Clone(draws)
			changed[at] = (changed[at] + 1 + r.Intn(7)) % 8
			y, others, now, _ := impl.EncBatch(e, list, changed)
			if !slices.EqualFunc(results, others, alikeResult) || len(now) != 40 {
				t.Errorf("EncBatch %v %v: results hang on draw %d", e, list, at)
			}
			mapOfIs(t, y, mapIn(x))
			var unlike []int
			for i := range 40 {
				if now[i] != leaves[i] {
					unlike = append(unlike, i)
				}
			}
			switch {
			case len(unlike) == 0:
				nowhereTold++
			case len(unlike) > 1 || unlike[0] <= at || leaves[unlike[0]] != draws[at] || now[unlike[0]] != changed[at]:
				t.Errorf("EncBatch %v %v: draw %d is told at %v", e, list, at, unlike)
			default:
				toldLater++
			}
		}
	}
	if toldLater < 500 || nowhereTold < 500 {
		t.Error("drawn:", toldLater, nowhereTold)
	}
}

// What is answered first does not hang on what is asked later, and the leaves
// of two transactions are as many, if these are as unlike as can be.
func TestLeavesHangOnNothingElse(t *testing.T) {
	texts := []string{"get 1", "get 5555", "put 5555 1", "drop 40", "check 1 1", "add 40 1", "scan 1 4", "scan 1 4; scan 1 4; scan 1 4; scan 1 4", "put 40 1; put 40 2; put 40 3; check 40 4", "put 5555 1; put 5556 1; drop 40; check 1 1"}
	for _, e := range []impl.Enc{emptyEnc(), someEnc(), fullEnc()} {
		for _, draws := range someDraws(40) {
			for _, text := range texts {
				list := batchNamed(text)
				if _, _, leaves, code := impl.EncTxn(e, list[0], draws[:20]); len(leaves) != 20 || code != impl.OK {
					t.Errorf("EncTxn %s: leaves %v %d", text, leaves, code)
				}
				for _, other := range texts {
					_, _, leaves, code := impl.EncBatch(e, append(list[:1:1], batchNamed(other)...), draws)
					if _, _, alone, _ := impl.EncBatch(e, list, draws); len(leaves) != 40 || code != impl.OK || !slices.Equal(leaves[:20], alone[:20]) || len(alone) != 40 {
						t.Errorf("EncBatch %s | %s: leaves %v, not %v", text, other, leaves, alone)
					}
				}
			}
		}
	}
}

// roomyEnc has room behind the ends of its lists, with what is none of its own
// there.
func roomyEnc(e impl.Enc) impl.Enc {
	return impl.Enc{Keys: append(slices.Clone(e.Keys), 77, -7)[:len(e.Keys)], Oram: roomyOram(e.Oram)}
}

func roomyEncs() []impl.Enc {
	out := []impl.Enc{{}, roomyEnc(impl.Enc{Keys: []int{1, 1}, Oram: oramOf([]int{3, 3}, nil)})}
	for _, e := range append(encsByChance(82, 12), emptyEnc(), someEnc(), fullEnc()) {
		out = append(out, roomyEnc(e), impl.Enc{Keys: roomyEnc(e).Keys, Oram: oneMemory(e.Oram)})
	}
	return out
}

func brimOfEnc(e impl.Enc) impl.Enc {
	return impl.Enc{Keys: e.Keys[:cap(e.Keys)], Oram: brimOfOram(e.Oram)}
}

func spoilEnc(e impl.Enc) {
	spoilNumbers(e.Keys)
	spoilOram(e.Oram)
}

// encAnswer is all that a call answers.
type encAnswer struct {
	enc     impl.Enc
	results []impl.Result
	leaves  []int
	code    int
}

func (a encAnswer) kept() encAnswer {
	out := encAnswer{keptEnc(a.enc), slices.Clone(a.results), slices.Clone(a.leaves), a.code}
	for i := range out.results {
		out.results[i].Values = slices.Clone(out.results[i].Values)
	}
	return out
}

func (a encAnswer) alike(b encAnswer) bool {
	return unlikeEncs(a.enc, b.enc) == "" && slices.EqualFunc(a.results, b.results, alikeResult) && slices.Equal(a.leaves, b.leaves) && a.code == b.code
}

func (a encAnswer) spoil() {
	spoilEnc(a.enc)
	spoilNumbers(a.leaves)
	for _, r := range a.results {
		spoilNumbers(r.Values)
	}
	clear(a.results[:cap(a.results)])
}

// spoilOne writes over the list in one place, behind its end, too, and puts
// what it was there; false says that there is no such place.
func (a *encAnswer) spoilOne(place int, was encAnswer) bool {
	switch {
	case place == 0:
		spoilNumbers(a.enc.Keys)
		a.enc.Keys = was.enc.Keys
	case place == 1:
		spoilNumbers(a.enc.Oram.Pos)
		a.enc.Oram.Pos = was.enc.Oram.Pos
	case place == 2:
		spoilBlocks(a.enc.Oram.Stash)
		a.enc.Oram.Stash = was.enc.Oram.Stash
	case place == 3:
		spoilNumbers(a.leaves)
		a.leaves = was.leaves
	case place < 4+len(a.results):
		spoilNumbers(a.results[place-4].Values)
		a.results[place-4].Values = was.results[place-4].Values
	case place < 4+len(a.results)+len(a.enc.Oram.Buckets):
		bucket := place - 4 - len(a.results)
		spoilBlocks(a.enc.Oram.Buckets[bucket])
		a.enc.Oram.Buckets[bucket] = was.enc.Oram.Buckets[bucket]
	default:
		return false
	}
	return true
}

// encTexts are transactions that are done, and such as are undone.
var encTexts = []string{
	"get 40; scan 1 4", "put 2 5; drop 40; add 12 1", "put 2 5; put 40 1; drop 12; check 2 6", "check 5555 5",
	"put 1 1; put 2 2; put 3 3; put 4 4 | put 5 5; put 6 6; put 7 7; check 7 8", "drop 1; check 1 1 | drop 1; put 8 8", "scan 1 4; scan 1 4; scan 1 4; scan 1 4 | scan 1 4",
}

// encCalls are calls that answer a hidden map, with codes, too.
func encCalls() map[string]func(e impl.Enc, list []impl.Txn, draws []int) encAnswer {
	return map[string]func(e impl.Enc, list []impl.Txn, draws []int) encAnswer{
		"NewEnc": func(e impl.Enc, _ []impl.Txn, _ []int) encAnswer {
			x, code := impl.NewEnc(e.Oram.Pos)
			return encAnswer{enc: x, code: code}
		},
		"EncTxn": func(e impl.Enc, list []impl.Txn, draws []int) encAnswer {
			x, r, leaves, code := impl.EncTxn(e, list[0], draws[:20])
			return encAnswer{x, []impl.Result{r}, leaves, code}
		},
		"EncBatch": func(e impl.Enc, list []impl.Txn, draws []int) encAnswer {
			x, results, leaves, code := impl.EncBatch(e, list, draws)
			return encAnswer{x, results, leaves, code}
		},
		"EncBatch of too few draws": func(e impl.Enc, list []impl.Txn, draws []int) encAnswer {
			x, results, leaves, code := impl.EncBatch(e, list, draws[:39])
			return encAnswer{x, results, leaves, code}
		},
	}
}

func roomyDraws() []int {
	return append(slices.Clone(someDraws(40)[9]), 5, 6, -1)[:40]
}

func TestNoCallChangesAHiddenMap(t *testing.T) {
	for name, call := range encCalls() {
		for i, e := range roomyEncs() {
			for _, text := range encTexts {
				list, draws := roomyBatch(batchNamed(text)), roomyDraws()
				kept, keptList, keptDraws := keptEnc(brimOfEnc(e)), keptBatch(brimOfBatch(list)), slices.Clone(draws[:cap(draws)])
				call(e, list, draws)
				impl.EncOK(e)
				impl.MapOf(e)
				if diff := unlikeEncs(brimOfEnc(e), kept); diff != "" {
					t.Errorf("%s of %s changed map %d: %s", name, text, i, diff)
				}
				if !alikeBatches(brimOfBatch(list), keptList) || !slices.Equal(draws[:cap(draws)], keptDraws) {
					t.Errorf("%s of %s changed %v or %v", name, text, list, draws)
				}
			}
		}
	}
}

func TestNoAnswerSharesAHiddenMap(t *testing.T) {
	for name, call := range encCalls() {
		for i := range roomyEncs() {
			for _, text := range encTexts {
				e, list, draws := roomyEncs()[i], roomyBatch(batchNamed(text)), roomyDraws()
				kept, keptList, keptDraws := keptEnc(brimOfEnc(e)), keptBatch(brimOfBatch(list)), slices.Clone(draws[:cap(draws)])
				x := call(e, list, draws)
				want := x.kept()
				x.spoil()
				if unlikeEncs(brimOfEnc(e), kept) != "" || !alikeBatches(brimOfBatch(list), keptList) || !slices.Equal(draws[:cap(draws)], keptDraws) {
					t.Errorf("%s of %s shares map %d", name, text, i)
				}
				y := call(e, list, draws)
				spoilEnc(e)
				spoilNumbers(draws)
				for _, txn := range list {
					spoilOps(txn.Ops)
				}
				if !y.alike(want) {
					t.Errorf("%s of %s hangs on map %d", name, text, i)
				}
			}
		}
	}
}

func TestNoListsOfAHiddenMapShareMemory(t *testing.T) {
	for name, call := range encCalls() {
		for i, e := range roomyEncs() {
			for _, text := range encTexts {
				list, draws := batchNamed(text), roomyDraws()
				want := call(e, list, draws).kept()
				for place := 0; ; place++ {
					x := call(e, list, draws)
					if !x.spoilOne(place, want) {
						break
					}
					if !x.alike(want) {
						t.Errorf("%s of %s, map %d: list %d is shared", name, text, i, place)
					}
				}
			}
		}
	}
}

func TestNoMapOfIsShared(t *testing.T) {
	for _, e := range roomyEncs() {
		kept, want := keptEnc(brimOfEnc(e)), mapIn(impl.Enc{})
		if impl.EncOK(e) {
			want = mapIn(e)
		}
		m, _ := impl.MapOf(e)
		spoilMap(m)
		if diff := unlikeEncs(brimOfEnc(e), kept); diff != "" {
			t.Error("MapOf shares memory:", diff)
		}
		m, _ = impl.MapOf(e)
		spoilEnc(e)
		if !slices.Equal(m, want) {
			t.Error("MapOf hangs on", e, m, want)
		}
	}
}

// Hidden maps whose trees' lists share memory are right as any other.
func TestHiddenMapsOfOneMemory(t *testing.T) {
	r := rand.New(rand.NewSource(83))
	for _, e := range encsByChance(84, 300) {
		x := impl.Enc{Keys: e.Keys, Oram: oneMemory(e.Oram)}
		list, draws := nearBatch(r, mapIn(e)), drawsByChance(r, 40, 8)
		want, results, leaves := plainEncBatch(e, list, draws)
		encBatchIs(t, x, list, draws, want, results, leaves)
		mapOfIs(t, x, mapIn(e))
	}
}
