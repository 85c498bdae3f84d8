package tests

import (
	"encoding/binary"
	"fmt"
	"math"
	"math/rand"
	"slices"
	"strings"
	"testing"

	"loop.example/g00548/impl"
)

// Where a state that is as long as may be has what.
const (
	stashAt   = 12
	blocksAt  = 13
	keysAt    = 49
	resultsAt = 60
	secondAt  = 95
	stateEnd  = 129
)

// wordsAround are numbers around all bounds, and around those of their bytes.
var wordsAround = []int{
	0, 1, 2, 3, 4, 5, 6, 7, 8, 9, 11, 12, 13, 14, 19, 20, 31, 32, 33, 40, 127, 128, 255, 256, 257, 511, 512, 9998, 9999, 10000, 65535, 65536, 65537,
	999998, 999999, 1000000, 1000001, 16777215, 16777216, 16777217, 2147483647, 2147483648, 2147483649, 4294967294, 4294967295,
}

// tooMany are counts above all bounds: of what there is room for in a text, and
// of what there is none.
var tooMany = []int{13, 14, 33, 34, 35, 42, 43, 44, 64, 100, 114, 115, 116, 127, 128, 139, 140, 141, 255, 256, 65536, 16777216, 1431655765, 1431655766, 2147483647, 2147483648, 4294967294, 4294967295}

// textKind is one of the three kinds of texts: how many numbers such a text has,
// all that reading a text tells, beside what a plain reader tells, and the text
// that is told of what was read.
type textKind struct {
	name  string
	size  int
	read  func(text string) string
	plain func(text string) (told string, right bool)
	none  func(code int) string
	again func(text string) (string, int)
	right []string
}

func textKinds() []textKind {
	return []textKind{
		{
			"state", 140,
			func(text string) string { return fmt.Sprint(impl.ReadState(text)) },
			func(text string) (string, bool) {
				e, results, right := plainReadState(text)
				if !right {
					return "", false
				}
				return fmt.Sprint(e, results, 0), true
			},
			func(code int) string { return fmt.Sprint(impl.Enc{}, []impl.Result{}, code) },
			func(text string) (string, int) {
				e, results, _ := impl.ReadState(text)
				return impl.StateText(e, results)
			},
			stateTexts(),
		},
		{
			"bucket", 7,
			func(text string) string { return fmt.Sprint(impl.ReadBucket(text)) },
			func(text string) (string, bool) {
				list, right := plainReadBucket(text)
				return fmt.Sprint(list, 0), right
			},
			func(code int) string { return fmt.Sprint([]impl.Block{}, code) },
			func(text string) (string, int) {
				list, _ := impl.ReadBucket(text)
				return impl.BucketText(list)
			},
			bucketTexts(),
		},
		{
			"entry", 68,
			func(text string) string { return fmt.Sprint(impl.ReadEntry(text)) },
			func(text string) (string, bool) {
				list, draws, right := plainReadEntry(text)
				return fmt.Sprint(list, draws, 0), right
			},
			func(code int) string { return fmt.Sprint([]impl.Txn{}, []int{}, code) },
			func(text string) (string, int) {
				list, draws, _ := impl.ReadEntry(text)
				return impl.EntryText(list, draws)
			},
			entryTexts(),
		},
	}
}

// asPlain wants of a text what the plain reader tells, and that what is read is
// told as this very text; it says whether it is one of the kind.
func (k textKind) asPlain(t *testing.T, text string) bool {
	t.Helper()
	want, right := k.plain(text)
	if !right {
		k.isNone(t, text, impl.ErrForm)
		return false
	}
	if told := k.read(text); told != want {
		t.Errorf("%s %x: read as %s, not %s", k.name, text, told, want)
	}
	if again, code := k.again(text); again != text || code != impl.OK {
		t.Errorf("%s %x: told again as %x %d", k.name, text, again, code)
	}
	return true
}

func (k textKind) isNone(t *testing.T, text string, want int) {
	t.Helper()
	if told := k.read(text); told != k.none(want) {
		t.Errorf("%s of %d bytes, %.600x: read as %s, not %d", k.name, len(text), text, told, want)
	}
}

// padded is the text of numbers, with 0 behind until there are size.
func padded(size int, numbers ...int) string {
	return plainText(append(slices.Clone(numbers), make([]int, size-len(numbers))...))
}

func withNumber(text string, at, number int) string {
	out := []byte(text)
	binary.LittleEndian.PutUint32(out[4*at:], uint32(number))
	return string(out)
}

func numberAt(text string, at int) int {
	return int(binary.LittleEndian.Uint32([]byte(text[4*at:])))
}

func plainNumbers(text string, size int) ([]int, bool) {
	if len(text) != 4*size {
		return nil, false
	}
	list := make([]int, size)
	for i := range list {
		list[i] = numberAt(text, i)
	}
	return list, true
}

func plainBlocks(numbers []int) []impl.Block {
	var list []impl.Block
	for i := 0; i < len(numbers); i += 3 {
		list = append(list, impl.Block{Id: numbers[i], Leaf: numbers[i+1], Value: numbers[i+2]})
	}
	return list
}

func blockNumbers(list []impl.Block) []int {
	numbers := []int{len(list)}
	for _, b := range list {
		numbers = append(numbers, b.Id, b.Leaf, b.Value)
	}
	return numbers
}

func areNoughts(numbers []int) bool {
	return !slices.ContainsFunc(numbers, func(n int) bool { return n != 0 })
}

func plainStateText(e impl.Enc, results []impl.Result) string {
	numbers := slices.Concat(e.Oram.Pos, blockNumbers(e.Oram.Stash), e.Keys, []int{len(results)})
	for _, r := range results {
		numbers = append(append(numbers, r.Code, len(r.Values)), r.Values...)
	}
	return padded(140, numbers...)
}

func plainReadState(text string) (e impl.Enc, results []impl.Result, right bool) {
	n, right := plainNumbers(text, 140)
	if !right || n[12] > 12 {
		return impl.Enc{}, nil, false
	}
	at := 13 + 3*n[12]
	e = impl.Enc{Keys: n[at : at+11], Oram: impl.Oram{Pos: n[:12], Stash: plainBlocks(n[13:at]), Buckets: make([][]impl.Block, 15)}}
	many := n[at+11]
	if many > 2 {
		return impl.Enc{}, nil, false
	}
	at += 12
	for range many {
		code, values := n[at], n[at+1]
		if code > 19 || values > 32 || code > 0 && values > 0 {
			return impl.Enc{}, nil, false
		}
		results = append(results, impl.Result{Code: code, Values: n[at+2 : at+2+values]})
		at += 2 + values
	}
	return e, results, areNoughts(n[at:]) && plainStateRight(e, results)
}

// plainStateRight is asked of what was read, so that nothing is below 0.
func plainStateRight(e impl.Enc, results []impl.Result) bool {
	ids, keys := map[int]bool{}, map[int]bool{}
	for _, leaf := range e.Oram.Pos {
		if leaf > 7 {
			return false
		}
	}
	for _, b := range e.Oram.Stash {
		if b.Id > 11 || ids[b.Id] || b.Leaf != e.Oram.Pos[b.Id] || b.Value > 999999 {
			return false
		}
		ids[b.Id] = true
	}
	for _, key := range e.Keys {
		if key > 9999 || key > 0 && keys[key] {
			return false
		}
		keys[key] = true
	}
	for _, r := range results {
		for _, value := range r.Values {
			if value > 999999 {
				return false
			}
		}
	}
	return true
}

func plainBucketText(list []impl.Block) string {
	return padded(7, blockNumbers(list)...)
}

func plainReadBucket(text string) ([]impl.Block, bool) {
	n, right := plainNumbers(text, 7)
	if !right || n[0] > 2 {
		return nil, false
	}
	list := plainBlocks(n[1 : 1+3*n[0]])
	for _, b := range list {
		if b.Id > 11 || b.Leaf > 7 || b.Value > 999999 {
			return nil, false
		}
	}
	return list, areNoughts(n[1+3*n[0]:])
}

func plainEntryText(list []impl.Txn, draws []int) string {
	numbers := append(slices.Clone(draws), len(list))
	for _, txn := range list {
		numbers = append(numbers, len(txn.Ops))
		for _, o := range txn.Ops {
			numbers = append(numbers, o.Kind, o.Key, o.Value)
		}
	}
	return padded(68, numbers...)
}

func plainReadEntry(text string) (list []impl.Txn, draws []int, right bool) {
	n, right := plainNumbers(text, 68)
	if !right || n[40] < 1 || n[40] > 2 {
		return nil, nil, false
	}
	for _, draw := range n[:40] {
		if draw > 7 {
			return nil, nil, false
		}
	}
	at := 41
	for range n[40] {
		ops := n[at]
		if ops < 1 || ops > 4 {
			return nil, nil, false
		}
		var txn impl.Txn
		for i := range ops {
			o := impl.Op{Kind: n[at+1+3*i], Key: n[at+2+3*i], Value: n[at+3+3*i]}
			if !plainOpOK(o) {
				return nil, nil, false
			}
			txn.Ops = append(txn.Ops, o)
		}
		list = append(list, txn)
		at += 1 + 3*ops
	}
	return list, n[:40], areNoughts(n[at:])
}

// emptied has nothing in any bucket: what a state's text tells of e.
func emptied(e impl.Enc) impl.Enc {
	e.Oram.Buckets = make([][]impl.Block, 15)
	return e
}

// fullestEnc has all blocks in the stash, and a key of each that may have one.
func fullestEnc() impl.Enc {
	return impl.Enc{Keys: fullEnc().Keys, Oram: oramOf([]int{8, 3, 10, 0, 11, 5, 1, 7, 2, 9, 4, 6}, nil)}
}

func countedResult(n, first int) impl.Result {
	var r impl.Result
	for i := range n {
		r.Values = append(r.Values, first+i)
	}
	return r
}

func fullestResults() []impl.Result {
	return []impl.Result{countedResult(32, 500), countedResult(32, 999968)}
}

// someResultLists are none, one and two results, with and without a code.
func someResultLists() [][]impl.Result {
	out := [][]impl.Result{
		nil, {}, {{}}, {{}, {}}, {{Values: []int{}}}, {{Code: impl.ErrCheck}}, {{Code: impl.ErrKey}, {Code: impl.ErrBad}}, {{Code: impl.ErrCheck}, {Values: []int{5, 6}}},
		{{Values: []int{5, 6}}, {Code: impl.ErrFull}}, {{Values: []int{0}}, {}}, {{}, {Values: []int{0}}}, {{Values: []int{999999, 0, 1}}, {Values: []int{7}}}, fullestResults(), fullestResults()[:1],
	}
	for n := range 33 {
		out = append(out, []impl.Result{countedResult(n, n)}, []impl.Result{{}, countedResult(n, 7)}, []impl.Result{countedResult(n, 1), countedResult(32-n, 2)})
	}
	return out
}

// stateByChance has so many blocks, all in the stash and in any order, and so
// many keys.
func stateByChance(r *rand.Rand, blocks, keys int) impl.Enc {
	e := encByChance(r, keys, 9999)
	e.Oram = oramWith(drawsByChance(r, 12, 1+r.Intn(8)), r.Perm(12)[:blocks], nil)
	for i := range e.Oram.Stash {
		e.Oram.Stash[i].Value = r.Intn(1000000)
	}
	return e
}

func resultsByChance(r *rand.Rand) []impl.Result {
	right := rightResults()
	list := make([]impl.Result, r.Intn(3))
	for i := range list {
		list[i] = right[r.Intn(len(right))]
	}
	return list
}

func blockByChance(r *rand.Rand) impl.Block {
	return impl.Block{Id: r.Intn(12), Leaf: r.Intn(8), Value: []int{r.Intn(1000000), r.Intn(3), edgeCells[r.Intn(4)]}[r.Intn(3)]}
}

func bucketByChance(r *rand.Rand) []impl.Block {
	list := make([]impl.Block, r.Intn(3))
	for i := range list {
		list[i] = blockByChance(r)
	}
	return list
}

// stateTexts, bucketTexts and entryTexts are right texts of all sizes.
func stateTexts() []string {
	r := rand.New(rand.NewSource(90))
	texts := []string{plainStateText(fullestEnc(), fullestResults()), plainStateText(emptyEnc(), nil), plainStateText(someEnc(), nil), plainStateText(fullEnc(), fullestResults())}
	for i, results := range someResultLists() {
		texts = append(texts, plainStateText(stateByChance(r, i%13, i%12), results))
	}
	return texts
}

func bucketTexts() []string {
	texts := []string{plainBucketText([]impl.Block{{Id: 11, Leaf: 7, Value: 999999}, {Id: 3, Leaf: 2, Value: 1}}), plainBucketText(nil), plainBucketText([]impl.Block{{}}), plainBucketText([]impl.Block{{}, {}})}
	r := rand.New(rand.NewSource(91))
	for range 20 {
		texts = append(texts, plainBucketText(bucketByChance(r)))
	}
	return texts
}

func entryTexts() []string {
	r := rand.New(rand.NewSource(92))
	texts := []string{plainEntryText(someBatch(), slices.Repeat([]int{7}, 40)), plainEntryText(someShortBatch(), make([]int, 40)), plainEntryText(batchNamed("get 1"), make([]int, 40))}
	for first := 1; first <= 4; first++ {
		texts = append(texts, plainEntryText(batchOf(r, 1, first), drawsByChance(r, 40, 8)))
		for second := 1; second <= 4; second++ {
			texts = append(texts, plainEntryText(batchOf(r, 2, first, second), drawsByChance(r, 40, 8)))
		}
	}
	return texts
}

// stateIs wants a text of a hidden map and results, and these, but for what is
// in buckets, of the text.
func stateIs(t *testing.T, e impl.Enc, results []impl.Result, want string) {
	t.Helper()
	text, code := impl.StateText(e, results)
	if text != want || code != impl.OK || len(text) != 560 {
		t.Errorf("StateText %v %v: %x %d, not %x", e, results, text, code, want)
	}
	x, back, code := impl.ReadState(want)
	if code != impl.OK || !slices.EqualFunc(back, results, alikeResult) || !impl.EncOK(x) {
		t.Errorf("ReadState %x: %v %d, not %v", want, back, code, results)
		return
	}
	if diff := unlikeEncs(x, emptied(e)); diff != "" {
		t.Errorf("ReadState %x: %s", want, diff)
	}
}

func noStateText(t *testing.T, name string, e impl.Enc, results []impl.Result, want int) {
	t.Helper()
	if text, code := impl.StateText(e, results); text != "" || code != want {
		t.Errorf("StateText, %s, of %d results: %.600x %d, not %d", name, len(results), text, code, want)
	}
}

func noState(t *testing.T, name, text string) {
	t.Helper()
	if e, results, code := impl.ReadState(text); !isZeroEnc(e) || len(results) != 0 || code != impl.ErrForm {
		t.Errorf("ReadState, %s: %v %v %d", name, e, results, code)
	}
}

func bucketIs(t *testing.T, list []impl.Block, want string) {
	t.Helper()
	text, code := impl.BucketText(list)
	if text != want || code != impl.OK || len(text) != 28 {
		t.Errorf("BucketText %v: %x %d, not %x", list, text, code, want)
	}
	if back, code := impl.ReadBucket(want); !slices.Equal(back, list) || code != impl.OK {
		t.Errorf("ReadBucket %x: %v %d, not %v", want, back, code, list)
	}
}

func noBucketText(t *testing.T, list []impl.Block, want int) {
	t.Helper()
	if text, code := impl.BucketText(list); text != "" || code != want {
		t.Errorf("BucketText of %d, %.80s: %x %d, not %d", len(list), fmt.Sprint(list), text, code, want)
	}
}

func noBucket(t *testing.T, name, text string) {
	t.Helper()
	if list, code := impl.ReadBucket(text); len(list) != 0 || code != impl.ErrForm {
		t.Errorf("ReadBucket, %s: %v %d", name, list, code)
	}
}

func entryIs(t *testing.T, list []impl.Txn, draws []int, want string) {
	t.Helper()
	text, code := impl.EntryText(list, draws)
	if text != want || code != impl.OK || len(text) != 272 {
		t.Errorf("EntryText %v %v: %x %d, not %x", list, draws, text, code, want)
	}
	if back, tape, code := impl.ReadEntry(want); !alikeBatches(back, list) || !slices.Equal(tape, draws) || code != impl.OK || !impl.SameBatch(back, list) {
		t.Errorf("ReadEntry %x: %v %v %d, not %v %v", want, back, tape, code, list, draws)
	}
}

func noEntryText(t *testing.T, name string, list []impl.Txn, draws []int, want int) {
	t.Helper()
	if text, code := impl.EntryText(list, draws); text != "" || code != want {
		t.Errorf("EntryText, %s: %.300x %d, not %d", name, text, code, want)
	}
}

func noEntry(t *testing.T, name, text string) {
	t.Helper()
	if list, draws, code := impl.ReadEntry(text); len(list) != 0 || len(draws) != 0 || code != impl.ErrForm {
		t.Errorf("ReadEntry, %s: %v %v %d", name, list, draws, code)
	}
}

func TestBoundsOfTexts(t *testing.T) {
	if impl.StateInts != 140 || impl.BucketInts != 7 || impl.LogInts != 68 {
		t.Error(impl.StateInts, impl.BucketInts, impl.LogInts)
	}
}

// By hand: number by number; what is behind is 0.
func TestStatesByHand(t *testing.T) {
	falling := newEnc(t, []int{7, 6, 5, 4, 3, 2, 1, 0, 7, 6, 5, 4})
	one := newEnc(t, []int{7, 6, 5, 4, 3, 2, 1, 0, 7, 6, 5, 4})
	one.Oram.Stash = []impl.Block{{Id: 9, Leaf: 6, Value: 999999}}
	one.Keys[10] = 9999
	for _, c := range []struct {
		e       impl.Enc
		results []impl.Result
		want    []int
	}{
		{emptyEnc(), nil, []int{0, 1, 2, 3, 4, 5, 6, 7, 0, 1, 2, 3}},
		{falling, []impl.Result{}, []int{7, 6, 5, 4, 3, 2, 1, 0, 7, 6, 5, 4}},
		{falling, []impl.Result{{}}, []int{7, 6, 5, 4, 3, 2, 1, 0, 7, 6, 5, 4, 0, 0, 0, 0, 0, 0, 0, 0, 0, 0, 0, 0, 1}},
		{falling, []impl.Result{{}, {}}, []int{7, 6, 5, 4, 3, 2, 1, 0, 7, 6, 5, 4, 0, 0, 0, 0, 0, 0, 0, 0, 0, 0, 0, 0, 2}},
		{one, nil, []int{7, 6, 5, 4, 3, 2, 1, 0, 7, 6, 5, 4, 1, 9, 6, 999999, 0, 0, 0, 0, 0, 0, 0, 0, 0, 0, 9999}},
		{one, []impl.Result{{Code: impl.ErrCheck}}, []int{7, 6, 5, 4, 3, 2, 1, 0, 7, 6, 5, 4, 1, 9, 6, 999999, 0, 0, 0, 0, 0, 0, 0, 0, 0, 0, 9999, 1, 14}},
		{one, []impl.Result{{Values: []int{8, 0, 9}}}, []int{7, 6, 5, 4, 3, 2, 1, 0, 7, 6, 5, 4, 1, 9, 6, 999999, 0, 0, 0, 0, 0, 0, 0, 0, 0, 0, 9999, 1, 0, 3, 8, 0, 9}},
		{someEnc(), []impl.Result{{Values: []int{1, 0}}, {Code: impl.ErrFull}}, []int{
			0, 1, 2, 3, 4, 5, 6, 7, 0, 1, 2, 3, 2, 8, 0, 108, 5, 5, 105, 40, 0, 7, 9999, 0, 3, 1, 0, 12, 0, 0, 2, 0, 2, 1, 0, 7, 0,
		}},
		{someEnc(), []impl.Result{{Code: impl.ErrRange}, {Values: []int{4, 0, 999999}}}, []int{
			0, 1, 2, 3, 4, 5, 6, 7, 0, 1, 2, 3, 2, 8, 0, 108, 5, 5, 105, 40, 0, 7, 9999, 0, 3, 1, 0, 12, 0, 0, 2, 4, 0, 0, 3, 4, 0, 999999,
		}},
		{fullestEnc(), fullestResults(), []int{
			0, 1, 2, 3, 4, 5, 6, 7, 0, 1, 2, 3,
			12, 8, 0, 108, 3, 3, 103, 10, 2, 110, 0, 0, 100, 11, 3, 111, 5, 5, 105, 1, 1, 101, 7, 7, 107, 2, 2, 102, 9, 1, 109, 4, 4, 104, 6, 6, 106,
			50, 20, 110, 10, 9999, 70, 1, 30, 90, 100, 80,
			2,
			0, 32, 500, 501, 502, 503, 504, 505, 506, 507, 508, 509, 510, 511, 512, 513, 514, 515, 516, 517, 518, 519, 520, 521, 522, 523, 524, 525, 526, 527, 528, 529, 530, 531,
			0, 32, 999968, 999969, 999970, 999971, 999972, 999973, 999974, 999975, 999976, 999977, 999978, 999979, 999980, 999981, 999982, 999983,
			999984, 999985, 999986, 999987, 999988, 999989, 999990, 999991, 999992, 999993, 999994, 999995, 999996, 999997, 999998, 999999,
		}},
	} {
		stateIs(t, c.e, c.results, padded(140, c.want...))
	}
}

// By hand: byte by byte.
func TestBytesOfTextsByHand(t *testing.T) {
	bucketIs(t, []impl.Block{{Id: 11, Leaf: 7, Value: 999999}, {Id: 0, Leaf: 1, Value: 258}},
		"\x02\x00\x00\x00\x0b\x00\x00\x00\x07\x00\x00\x00\x3f\x42\x0f\x00\x00\x00\x00\x00\x01\x00\x00\x00\x02\x01\x00\x00")
	bucketIs(t, nil, strings.Repeat("\x00", 28))
	e := newEnc(t, make([]int, 12))
	stateIs(t, e, nil, strings.Repeat("\x00", 560))
	e.Keys[0], e.Oram.Stash = 9999, []impl.Block{{Id: 2, Value: 65536}}
	stateIs(t, e, []impl.Result{{Values: []int{257}}}, strings.Repeat("\x00", 48)+
		"\x01\x00\x00\x00\x02\x00\x00\x00\x00\x00\x00\x00\x00\x00\x01\x00"+"\x0f\x27\x00\x00"+strings.Repeat("\x00", 40)+
		"\x01\x00\x00\x00\x00\x00\x00\x00\x01\x00\x00\x00\x01\x01\x00\x00"+strings.Repeat("\x00", 436))
	entryIs(t, batchNamed("put 9999 999999"), append([]int{7}, make([]int, 39)...),
		"\x07\x00\x00\x00"+strings.Repeat("\x00", 156)+"\x01\x00\x00\x00\x01\x00\x00\x00\x02\x00\x00\x00\x0f\x27\x00\x00\x3f\x42\x0f\x00"+strings.Repeat("\x00", 92))
}

func TestStatesOfEachSize(t *testing.T) {
	r := rand.New(rand.NewSource(93))
	for blocks := range 13 {
		for keys := range 12 {
			for _, results := range someResultLists() {
				e := stateByChance(r, blocks, keys)
				stateIs(t, e, results, plainStateText(e, results))
			}
		}
	}
	for _, result := range rightResults() {
		for _, results := range [][]impl.Result{{result}, {result, {}}, {{}, result}, {result, result}, {result, {Code: impl.ErrTorn}}, {countedResult(32, 3), result}} {
			stateIs(t, someEnc(), results, plainStateText(someEnc(), results))
		}
	}
}

// What is in a bucket is told by no state, and asked to be right all the same.
func TestStatesTellNoBucket(t *testing.T) {
	for name, e := range rightEncs() {
		for _, results := range [][]impl.Result{nil, fullestResults()} {
			stateIs(t, e, results, plainStateText(e, results))
			bare, _ := impl.StateText(emptied(e), results)
			if text, _ := impl.StateText(e, results); text != bare {
				t.Error("StateText tells of buckets:", name)
			}
		}
	}
	for _, e := range encsByChance(94, 300) {
		stateIs(t, e, nil, plainStateText(e, nil))
	}
}

func TestHiddenMapsThatAreNoStates(t *testing.T) {
	for name, e := range badEncs() {
		for _, results := range [][]impl.Result{nil, {{}}, fullestResults(), {{Code: 20}}, make([]impl.Result, 3)} {
			noStateText(t, name, e, results, impl.ErrBad)
		}
		noStateText(t, name, e, make([]impl.Result, impl.MaxList), impl.ErrBad)
		noStateText(t, name, e, make([]impl.Result, impl.MaxList+1), impl.ErrLong)
	}
}

func TestResultsThatAreNoStates(t *testing.T) {
	for _, e := range []impl.Enc{emptyEnc(), someEnc(), fullestEnc()} {
		for _, n := range []int{3, 4, 5, 32, 100, impl.MaxList - 1, impl.MaxList} {
			noStateText(t, "too many", e, make([]impl.Result, n), impl.ErrBad)
			noStateText(t, "too many", e, slices.Repeat([]impl.Result{{Code: impl.ErrCheck}}, n), impl.ErrBad)
		}
		for _, n := range []int{impl.MaxList + 1, impl.MaxList + 2, 2 * impl.MaxList} {
			noStateText(t, "long", e, make([]impl.Result, n), impl.ErrLong)
			noStateText(t, "long", e, slices.Repeat([]impl.Result{{Code: -1}}, n), impl.ErrLong)
		}
		for _, bad := range badResults() {
			for _, results := range [][]impl.Result{{bad}, {bad, {}}, {{}, bad}, {bad, bad}, {{Code: impl.ErrFull}, bad}, {countedResult(32, 0), bad}} {
				noStateText(t, fmt.Sprintf("%.80s", fmt.Sprint(bad)), e, results, impl.ErrBad)
			}
		}
	}
}

func TestBuckets(t *testing.T) {
	bucketIs(t, nil, padded(7))
	bucketIs(t, []impl.Block{}, padded(7))
	bucketIs(t, []impl.Block{{}}, padded(7, 1))
	bucketIs(t, []impl.Block{{Id: 3, Leaf: 4, Value: 5}}, padded(7, 1, 3, 4, 5))
	bucketIs(t, []impl.Block{{Id: 3, Leaf: 4, Value: 5}, {}}, padded(7, 2, 3, 4, 5))
	bucketIs(t, []impl.Block{{}, {Id: 3, Leaf: 4, Value: 5}}, padded(7, 2, 0, 0, 0, 3, 4, 5))
	bucketIs(t, []impl.Block{{Id: 6, Leaf: 5, Value: 4}, {Id: 3, Leaf: 2, Value: 1}}, padded(7, 2, 6, 5, 4, 3, 2, 1))
	for id := range 12 {
		for leaf := range 8 {
			for _, value := range append([]int{2, 255, 256, 65535, 65536, 500000}, edgeCells...) {
				b, other := impl.Block{Id: id, Leaf: leaf, Value: value}, impl.Block{Id: (id + 5) % 12, Leaf: 7 - leaf, Value: 70}
				for _, list := range [][]impl.Block{{b}, {b, other}, {other, b}} {
					bucketIs(t, list, plainBucketText(list))
				}
			}
		}
	}
}

// A bucket's text asks of each block alone whether it is one: two that are
// alike, or have one id, are told and read.
func TestBucketsOfBlocksAlike(t *testing.T) {
	for _, b := range []impl.Block{{}, {Id: 11, Leaf: 7, Value: 999999}, {Id: 4, Leaf: 4, Value: 104}} {
		bucketIs(t, []impl.Block{b, b}, padded(7, 2, b.Id, b.Leaf, b.Value, b.Id, b.Leaf, b.Value))
		bucketIs(t, []impl.Block{b, {Id: b.Id, Leaf: b.Leaf, Value: 6}}, padded(7, 2, b.Id, b.Leaf, b.Value, b.Id, b.Leaf, 6))
		bucketIs(t, []impl.Block{b, {Id: b.Id, Leaf: 3, Value: 6}}, padded(7, 2, b.Id, b.Leaf, b.Value, b.Id, 3, 6))
		bucketIs(t, []impl.Block{b, {Id: 5, Leaf: b.Leaf, Value: b.Value}}, padded(7, 2, b.Id, b.Leaf, b.Value, 5, b.Leaf, b.Value))
	}
}

func TestListsThatAreNoBuckets(t *testing.T) {
	right := impl.Block{Id: 3, Leaf: 3, Value: 70}
	var bad []impl.Block
	for _, id := range wrongIds {
		bad = append(bad, impl.Block{Id: id, Leaf: 3, Value: 70}, impl.Block{Id: id})
	}
	for _, leaf := range wrongPaths {
		bad = append(bad, impl.Block{Id: 3, Leaf: leaf, Value: 70}, impl.Block{Leaf: leaf})
	}
	for _, value := range wrongCells {
		bad = append(bad, impl.Block{Id: 3, Leaf: 3, Value: value}, impl.Block{Value: value})
	}
	for _, b := range bad {
		for _, list := range [][]impl.Block{{b}, {b, right}, {right, b}, {b, b}, {right, right, b}, {b, right, right}} {
			noBucketText(t, list, impl.ErrBad)
		}
	}
	for _, n := range []int{3, 4, 5, 12, 15, 100, impl.MaxList - 1, impl.MaxList, impl.MaxList + 1, impl.MaxList + 2, 2 * impl.MaxList} {
		want := map[bool]int{true: impl.ErrLong, false: impl.ErrBad}[n > impl.MaxList]
		noBucketText(t, make([]impl.Block, n), want)
		noBucketText(t, slices.Repeat([]impl.Block{right}, n), want)
		noBucketText(t, slices.Repeat([]impl.Block{{Id: -1, Leaf: 8, Value: math.MaxInt}}, n), want)
	}
	noBucketText(t, []impl.Block{{Id: 0}, {Id: 1}, {Id: 2}}, impl.ErrBad)
}

// By hand: number by number; what is behind is 0.
func TestEntriesByHand(t *testing.T) {
	turns := make([]int, 40)
	for i := range turns {
		turns[i] = i % 8
	}
	ahead := []int{0, 1, 2, 3, 4, 5, 6, 7, 0, 1, 2, 3, 4, 5, 6, 7, 0, 1, 2, 3, 4, 5, 6, 7, 0, 1, 2, 3, 4, 5, 6, 7, 0, 1, 2, 3, 4, 5, 6, 7}
	for text, want := range map[string][]int{
		"get 1":                     {1, 1, 1, 1, 0},
		"put 2 0":                   {1, 1, 2, 2, 0},
		"drop 9999":                 {1, 1, 3, 9999, 0},
		"check 3 999999":            {1, 1, 4, 3, 999999},
		"add 4 5":                   {1, 1, 5, 4, 5},
		"scan 5 4":                  {1, 1, 6, 5, 4},
		"get 1; put 2 9":            {1, 2, 1, 1, 0, 2, 2, 9},
		"get 1 | put 2 9":           {2, 1, 1, 1, 0, 1, 2, 2, 9},
		"put 1 5; get 2 | scan 3 4": {2, 2, 2, 1, 5, 1, 2, 0, 1, 6, 3, 4},
		"scan 3 4 | put 1 5; get 2": {2, 1, 6, 3, 4, 2, 2, 1, 5, 1, 2, 0},
		"get 8; get 8; get 8":       {1, 3, 1, 8, 0, 1, 8, 0, 1, 8, 0},
		"put 7 50; get 7; check 9 999999; scan 1 4 | drop 9999; add 8 0; get 7; scan 9998 1": {
			2, 4, 2, 7, 50, 1, 7, 0, 4, 9, 999999, 6, 1, 4, 4, 3, 9999, 0, 5, 8, 0, 1, 7, 0, 6, 9998, 1,
		},
	} {
		entryIs(t, batchNamed(text), turns, padded(68, slices.Concat(ahead, want)...))
		entryIs(t, batchNamed(text), make([]int, 40), padded(68, slices.Concat(make([]int, 40), want)...))
	}
}

func TestEntriesOfAllBatches(t *testing.T) {
	draws := someDraws(40)
	for _, list := range rightBatches() {
		for _, tape := range draws[:5] {
			entryIs(t, list, tape, plainEntryText(list, tape))
		}
	}
	for _, tape := range draws {
		entryIs(t, someBatch(), tape, plainEntryText(someBatch(), tape))
	}
	for at := range 40 {
		for leaf := range 8 {
			tape := make([]int, 40)
			tape[at] = leaf
			entryIs(t, someShortBatch(), tape, plainEntryText(someShortBatch(), tape))
		}
	}
}

func TestDrawsThatAreNoEntries(t *testing.T) {
	for _, n := range []int{0, 1, 19, 20, 21, 38, 39, 41, 42, 60, 67, 68, 80, 100, impl.MaxList - 1, impl.MaxList, impl.MaxList + 1, impl.MaxList + 40, 2 * impl.MaxList} {
		want := map[bool]int{true: impl.ErrLong, false: impl.ErrTape}[n > impl.MaxList]
		for _, draw := range []int{0, 7, -1, 8, math.MinInt, math.MaxInt} {
			draws := slices.Repeat([]int{draw}, n)
			for _, list := range [][]impl.Txn{someBatch(), someShortBatch(), batchNamed("get 1"), nil, {{}}, make([]impl.Txn, impl.MaxList)} {
				noEntryText(t, fmt.Sprint(n, " draws"), list, draws, want)
			}
		}
	}
	noEntryText(t, "nil", someBatch(), nil, impl.ErrTape)
	for _, draw := range wrongPaths {
		for at := range 40 {
			draws := slices.Clone(someDraws(40)[2])
			draws[at] = draw
			for _, list := range [][]impl.Txn{someBatch(), batchNamed("get 1"), nil, {{}}, make([]impl.Txn, impl.MaxList)} {
				noEntryText(t, fmt.Sprintf("%d at %d", draw, at), list, draws, impl.ErrRange)
			}
		}
		noEntryText(t, "all", someBatch(), slices.Repeat([]int{draw}, 40), impl.ErrRange)
	}
}

func TestBatchesThatAreNoEntries(t *testing.T) {
	for name, list := range badBatches() {
		noEntryText(t, name, list, make([]int, 40), impl.ErrBad)
		noEntryText(t, name, list, slices.Repeat([]int{7}, 40), impl.ErrBad)
	}
}

// Which code is told where several fit: that a list is long, the number of
// draws, a draw, and that the batch is not right.
func TestWhichCodeOfEntriesIsFirst(t *testing.T) {
	for name, list := range map[string][]impl.Txn{
		"right": someBatch(), "bad": {{}}, "none": nil, "many": slices.Repeat(someShortBatch(), 2), "most": make([]impl.Txn, impl.MaxList),
		"operations": {{Ops: make([]impl.Op, impl.MaxList+1)}}, "long": make([]impl.Txn, impl.MaxList+1), "longer": slices.Repeat(someShortBatch(), impl.MaxList),
	} {
		for n, wantDraws := range map[int]int{0: impl.ErrTape, 39: impl.ErrTape, 40: 0, 41: impl.ErrTape, impl.MaxList: impl.ErrTape, impl.MaxList + 1: impl.ErrLong} {
			for _, draw := range []int{3, 8} {
				draws := slices.Repeat([]int{draw}, n)
				want := firstOf(wantDraws, n, 40, draw, name == "right")
				if strings.HasPrefix(name, "long") {
					want = impl.ErrLong
				}
				if want != impl.OK {
					noEntryText(t, fmt.Sprint(name, n, draw), list, draws, want)
				} else {
					entryIs(t, list, draws, plainEntryText(list, draws))
				}
			}
		}
	}
}

// Promise 13: texts of one kind are as long, and those of another length, or of
// another kind, are none.
func TestLengthsOfTexts(t *testing.T) {
	kinds := textKinds()
	for _, k := range kinds {
		for _, text := range k.right {
			if len(text) != 4*k.size {
				t.Fatal("no case:", len(text))
			}
			if !k.asPlain(t, text) {
				t.Errorf("%s %x: none", k.name, text)
			}
			for _, other := range []string{text[1:], text[4:], text[8:], text[:len(text)-1], text[:len(text)-2], text[:len(text)-3], text[:len(text)-4], text[:len(text)-8], text[:4], text[:len(text)/2]} {
				k.isNone(t, other, impl.ErrForm)
			}
			for _, n := range []int{1, 2, 3, 4, 8, 400, len(text)} {
				k.isNone(t, text+strings.Repeat("\x00", n), impl.ErrForm)
				k.isNone(t, strings.Repeat("\x00", n)+text, impl.ErrForm)
			}
			k.isNone(t, text+text, impl.ErrForm)
			for _, n := range []int{impl.MaxText - 4, impl.MaxText - 1, impl.MaxText} {
				k.isNone(t, text+strings.Repeat("\x00", n-len(text)), impl.ErrForm)
			}
			for _, n := range []int{impl.MaxText + 1, impl.MaxText + 4, 2 * impl.MaxText} {
				k.isNone(t, text+strings.Repeat("\x00", n-len(text)), impl.ErrLong)
			}
			for _, other := range kinds {
				if other.name != k.name {
					other.isNone(t, text, impl.ErrForm)
				}
			}
		}
		k.isNone(t, "", impl.ErrForm)
		for n := range 700 {
			if n != 4*k.size {
				k.isNone(t, strings.Repeat("\x00", n), impl.ErrForm)
			}
			k.isNone(t, textOf(n), impl.ErrForm)
		}
		for _, n := range []int{impl.MaxText - 4, impl.MaxText - 1, impl.MaxText, impl.MaxText + 1, impl.MaxText + 4, 2 * impl.MaxText} {
			want := map[bool]int{true: impl.ErrLong, false: impl.ErrForm}[n > impl.MaxText]
			k.isNone(t, textOf(n), want)
			k.isNone(t, strings.Repeat("\x00", n), want)
		}
	}
}

// Noughts alone are a state and a bucket in which nothing is, but no entry.
func TestTextsOfNoughts(t *testing.T) {
	stateIs(t, newEnc(t, make([]int, 12)), nil, strings.Repeat("\x00", 560))
	bucketIs(t, nil, strings.Repeat("\x00", 28))
	noEntry(t, "noughts", strings.Repeat("\x00", 272))
}

// How many blocks, results and values there are.
func TestCountsOfStates(t *testing.T) {
	r := rand.New(rand.NewSource(95))
	k := textKinds()[0]
	for blocks := range 13 {
		for _, results := range [][]impl.Result{nil, {{}}, {{}, {}}, {countedResult(3, 1)}, {{}, countedResult(32, 1)}, fullestResults()} {
			e := stateByChance(r, blocks, 11)
			text := plainStateText(e, results)
			many := keysAt + 3*blocks - 36 + 11
			for n := range 50 {
				k.asPlain(t, withNumber(text, stashAt, n))
				k.asPlain(t, withNumber(text, many, n))
				k.asPlain(t, withNumber(text, many+2, n))
			}
			for _, n := range tooMany {
				noState(t, fmt.Sprint(n, " blocks"), withNumber(text, stashAt, n))
				noState(t, fmt.Sprint(n, " results"), withNumber(text, many, n))
			}
			for n := 3; n < 13; n++ {
				noState(t, fmt.Sprint(n, " results"), withNumber(text, many, n))
			}
			if len(results) > 0 {
				for _, n := range tooMany[2:] {
					noState(t, fmt.Sprint(n, " values"), withNumber(text, many+2, n))
				}
			}
		}
	}
	// What is counted is there, but for noughts that are no block or too many.
	nothing := plainStateText(newEnc(t, make([]int, 12)), nil)
	for _, n := range []int{2, 3, 12, 13, 42} {
		noState(t, "a block of noughts more than once", withNumber(nothing, stashAt, n))
	}
	one := newEnc(t, make([]int, 12))
	one.Oram.Stash = []impl.Block{{}}
	stateIs(t, one, nil, withNumber(nothing, stashAt, 1))
	for n := range 33 {
		stateIs(t, newEnc(t, make([]int, 12)), []impl.Result{{Values: make([]int, n)}}, withNumber(withNumber(nothing, 24, 1), 26, n))
	}
	noState(t, "33 values of noughts", withNumber(withNumber(nothing, 24, 1), 26, 33))
	noState(t, "values to the end", withNumber(withNumber(nothing, 24, 1), 26, 113))
	noState(t, "values beyond the end", withNumber(withNumber(nothing, 24, 1), 26, 114))
	noState(t, "three results of noughts", withNumber(nothing, 24, 3))
	noState(t, "results to the end", withNumber(nothing, 24, 57))
	noState(t, "results beyond the end", withNumber(nothing, 24, 58))
}

func TestCountsOfBucketsAndEntries(t *testing.T) {
	kinds := textKinds()
	for _, text := range kinds[1].right {
		for n := range 50 {
			kinds[1].asPlain(t, withNumber(text, 0, n))
		}
		for _, n := range append([]int{3, 4, 5, 6, 7}, tooMany...) {
			noBucket(t, fmt.Sprint(n, " blocks"), withNumber(text, 0, n))
		}
	}
	for _, text := range kinds[2].right {
		second := 42 + 3*numberAt(text, 41)
		for n := range 50 {
			for _, at := range []int{40, 41, second} {
				kinds[2].asPlain(t, withNumber(text, at, n))
			}
		}
		for _, n := range append([]int{0, 3, 4, 5, 8, 9, 12}, tooMany...) {
			noEntry(t, fmt.Sprint(n, " transactions"), withNumber(text, 40, n))
		}
		for _, n := range append([]int{0, 5, 6, 7, 8, 9, 12}, tooMany...) {
			noEntry(t, fmt.Sprint(n, " operations"), withNumber(text, 41, n))
			noEntry(t, fmt.Sprint(n, " operations of the second"), withNumber(withNumber(text, 40, 2), second, n))
		}
	}
	// Operations that are right, but one too many; a third transaction.
	five := slices.Concat(make([]int, 40), []int{1, 5}, slices.Repeat([]int{1, 1, 0}, 5))
	noEntry(t, "five operations", padded(68, five...))
	five[41] = 4
	noEntry(t, "an operation that is left over", padded(68, five...))
	entryIs(t, batchNamed("get 1; get 1; get 1; get 1"), make([]int, 40), padded(68, five[:54]...))
	three := slices.Concat(make([]int, 40), []int{3}, slices.Repeat([]int{1, 1, 1, 0}, 3))
	noEntry(t, "three transactions", padded(68, three...))
	three[40] = 2
	noEntry(t, "a transaction that is left over", padded(68, three...))
	entryIs(t, batchNamed("get 1 | get 1"), make([]int, 40), padded(68, three[:49]...))
	noEntry(t, "one transaction of nine", padded(68, slices.Concat(make([]int, 40), []int{1, 9}, slices.Repeat([]int{1, 1, 0}, 8))...))
}

// Behind the last number of a text all is 0, each number and each of its bytes.
func TestWhatIsLeftOver(t *testing.T) {
	for _, k := range textKinds() {
		rest := 0
		for _, text := range k.right {
			end := plainEnd(k, text)
			for at := 4 * end; at < 4*k.size; at++ {
				for _, by := range []byte{1, 2, 64, 128, 255} {
					k.isNone(t, changedAt(text, at, by), impl.ErrForm)
				}
				rest++
			}
			for at := end; at < k.size; at++ {
				for _, n := range []int{1, 7, 65536, 999999, 2147483648, 4294967295} {
					k.isNone(t, withNumber(text, at, n), impl.ErrForm)
				}
			}
			if end < k.size {
				filled := text[:4*end] + strings.Repeat("\x01\x00\x00\x00", k.size-end)
				k.isNone(t, filled, impl.ErrForm)
			}
		}
		if rest < 100 {
			t.Error(k.name, "left over:", rest)
		}
	}
	// The first, a middle and the last place, by hand.
	fullest := plainStateText(fullestEnc(), fullestResults())
	for _, at := range []int{129, 130, 134, 138, 139} {
		noState(t, fmt.Sprint("1 at ", at), withNumber(fullest, at, 1))
	}
	empty := plainStateText(emptyEnc(), nil)
	for _, at := range []int{25, 26, 27, 80, 138, 139} {
		noState(t, fmt.Sprint("1 at ", at), withNumber(empty, at, 1))
	}
	for at := 1; at < 7; at++ {
		noBucket(t, fmt.Sprint("1 at ", at), withNumber(padded(7), at, 1))
	}
	for at := 4; at < 7; at++ {
		noBucket(t, fmt.Sprint("1 at ", at), withNumber(padded(7, 1, 3, 3, 3), at, 1))
	}
	noBucket(t, "two blocks, of which one counts", padded(7, 1, 3, 4, 5, 6, 7, 8))
	noBucket(t, "a block that does not count", padded(7, 0, 3, 4, 5))
	noEntry(t, "1 behind a whole batch", withNumber(plainEntryText(someBatch(), make([]int, 40)), 67, 1))
	for _, at := range []int{45, 46, 56, 66, 67} {
		noEntry(t, fmt.Sprint("1 at ", at), withNumber(plainEntryText(batchNamed("get 1"), make([]int, 40)), at, 1))
	}
}

// plainEnd is how many numbers a right text has ahead of what is left over.
func plainEnd(k textKind, text string) int {
	switch k.name {
	case "state":
		_, results, _ := plainReadState(text)
		end := 13 + 3*numberAt(text, 12) + 12
		for _, r := range results {
			end += 2 + len(r.Values)
		}
		return end
	case "bucket":
		return 1 + 3*numberAt(text, 0)
	}
	list, _, _ := plainReadEntry(text)
	end := 41
	for _, txn := range list {
		end += 1 + 3*len(txn.Ops)
	}
	return end
}

// Each number of the fullest state, at and around its bounds.
func TestNumbersOfStates(t *testing.T) {
	e := fullestEnc()
	text := plainStateText(e, fullestResults())
	is := func(at, number int, right bool) {
		t.Helper()
		_, _, code := impl.ReadState(withNumber(text, at, number))
		if (code == impl.OK) != right {
			t.Errorf("ReadState, %d at %d: %d", number, at, code)
		}
		if !right {
			noState(t, fmt.Sprintf("%d at %d", number, at), withNumber(text, at, number))
		}
	}
	for _, n := range wordsAround {
		for id := range 12 {
			is(id, n, n == e.Oram.Pos[id])
		}
		is(stashAt, n, n == 12)
		for i, b := range e.Oram.Stash {
			is(blocksAt+3*i, n, n == b.Id)
			is(blocksAt+3*i+1, n, n == b.Leaf)
			is(blocksAt+3*i+2, n, n <= 999999)
		}
		for i, key := range e.Keys {
			is(keysAt+i, n, n == key || n <= 9999 && !slices.Contains(e.Keys, n))
		}
		is(resultsAt, n, n == 2)
		for _, at := range []int{resultsAt + 1, secondAt} {
			is(at, n, n == 0)
			is(at+1, n, n == 32)
			for i := range 32 {
				is(at+2+i, n, n <= 999999)
			}
		}
		for at := stateEnd; at < 140; at++ {
			is(at, n, n == 0)
		}
	}
}

// A leaf that no block has may be another; a block's is the block's, too.
func TestLeavesOfStates(t *testing.T) {
	text := plainStateText(emptyEnc(), nil)
	for id := range 12 {
		for leaf := range 8 {
			leaves := leavesInTurn()
			leaves[id] = leaf
			stateIs(t, newEnc(t, leaves), nil, withNumber(text, id, leaf))
		}
		for _, leaf := range wordsAround {
			if leaf > 7 {
				noState(t, fmt.Sprintf("leaf %d of %d", leaf, id), withNumber(text, id, leaf))
			}
		}
	}
	fullest := plainStateText(fullestEnc(), fullestResults())
	for i, b := range fullestEnc().Oram.Stash {
		for leaf := range 8 {
			both := withNumber(withNumber(fullest, b.Id, leaf), blocksAt+3*i+1, leaf)
			if _, _, code := impl.ReadState(both); code != impl.OK {
				t.Errorf("ReadState, leaf %d of %d: %d", leaf, b.Id, code)
			}
			textKinds()[0].asPlain(t, both)
		}
		for _, leaf := range []int{8, 9, 255, 256, 2147483648, 4294967295} {
			noState(t, "a leaf that is none, in both places", withNumber(withNumber(fullest, b.Id, leaf), blocksAt+3*i+1, leaf))
		}
	}
}

// A block that stands twice, and a key, at each two places.
func TestWhatStandsTwiceInAState(t *testing.T) {
	e := fullestEnc()
	text := plainStateText(e, nil)
	for i, b := range e.Oram.Stash {
		for j := range e.Oram.Stash {
			twice := withNumber(withNumber(text, blocksAt+3*j, b.Id), blocksAt+3*j+1, b.Leaf)
			if i != j {
				noState(t, fmt.Sprintf("block %d at %d and %d", b.Id, i, j), twice)
				noState(t, fmt.Sprintf("block %d at %d and %d, alike", b.Id, i, j), withNumber(twice, blocksAt+3*j+2, b.Value))
			}
		}
	}
	for i := range 11 {
		for j := range 11 {
			if i != j {
				noState(t, fmt.Sprintf("one key at %d and %d", i, j), withNumber(text, keysAt+j, e.Keys[i]))
				for _, key := range []int{1, 7777, 9999} {
					// The others are such as no key is like.
					alike := text
					for at := range 11 {
						alike = withNumber(alike, keysAt+at, 2000+at)
					}
					noState(t, fmt.Sprintf("key %d at %d and %d", key, i, j), withNumber(withNumber(alike, keysAt+i, key), keysAt+j, key))
				}
				x := fullestEnc()
				x.Keys[i], x.Keys[j] = 0, 0
				stateIs(t, x, nil, withNumber(withNumber(text, keysAt+i, 0), keysAt+j, 0))
			}
		}
	}
	// Thirteen blocks are too many if no other thing is wrong.
	blocks := append(blockNumbers(e.Oram.Stash), 0, 0, 100)
	blocks[0] = 13
	noState(t, "thirteen blocks", padded(140, slices.Concat(e.Oram.Pos, blocks, e.Keys)...))
}

func TestResultsOfStates(t *testing.T) {
	ahead := slices.Concat(leavesInTurn(), make([]int, 12))
	at := func(numbers ...int) string { return padded(140, slices.Concat(ahead, numbers)...) }
	for code := range 20 {
		stateIs(t, emptyEnc(), []impl.Result{{Code: code}}, at(1, code))
		stateIs(t, emptyEnc(), []impl.Result{{Code: code}, {Code: 19 - code}}, at(2, code, 0, 19-code))
		stateIs(t, emptyEnc(), []impl.Result{{Values: []int{8}}, {Code: code}}, at(2, 0, 1, 8, code))
		stateIs(t, emptyEnc(), []impl.Result{{Code: code}, {Values: []int{8}}}, at(2, code, 0, 0, 1, 8))
		if code > 0 {
			for _, values := range [][]int{{1, 0}, {1, 8}, {2, 0, 0}, append([]int{32}, make([]int, 32)...), append([]int{33}, make([]int, 33)...)} {
				noState(t, "a code with values", at(slices.Concat([]int{1, code}, values)...))
				noState(t, "a code with values ahead", at(slices.Concat([]int{2, code}, values, []int{0, 0})...))
				noState(t, "a code with values behind", at(slices.Concat([]int{2, 0, 0, code}, values)...))
			}
		}
	}
	for _, code := range append([]int{20, 21, 22}, tooMany[8:]...) {
		noState(t, "no code", at(1, code))
		noState(t, "no code ahead", at(2, code, 0, 0, 0))
		noState(t, "no code behind", at(2, 0, 0, code, 0))
	}
	for n := range 36 {
		values := countedResult(n, 1).Values
		one, two := at(slices.Concat([]int{1, 0, n}, values)...), at(slices.Concat([]int{2, 0, n}, values, []int{0, n}, values)...)
		if n > 32 {
			noState(t, "too many values", one)
			noState(t, "too many values in both", two)
			noState(t, "too many values behind", at(slices.Concat([]int{2, 14, 0, 0, n}, values)...))
			continue
		}
		stateIs(t, emptyEnc(), []impl.Result{{Values: values}}, one)
		stateIs(t, emptyEnc(), []impl.Result{{Values: values}, {Values: values}}, two)
	}
}

// Each number of a bucket and of an entry, at and around its bounds.
func TestNumbersOfBucketsAndEntries(t *testing.T) {
	for _, n := range wordsAround {
		for _, at := range []int{1, 4} {
			for i, most := range []int{11, 7, 999999} {
				text := withNumber(padded(7, 2, 3, 3, 3, 4, 4, 4), at+i, n)
				if list, _ := plainReadBucket(text); n <= most {
					bucketIs(t, list, text)
				} else {
					noBucket(t, fmt.Sprintf("%d at %d", n, at+i), text)
				}
			}
		}
		for at := range 40 {
			text := withNumber(plainEntryText(someBatch(), make([]int, 40)), at, n)
			if list, draws, _ := plainReadEntry(text); n <= 7 {
				entryIs(t, list, draws, text)
			} else {
				noEntry(t, fmt.Sprintf("draw %d at %d", n, at), text)
			}
		}
		for at := range 8 {
			text := plainEntryText(someBatch(), make([]int, 40))
			place := 42 + 3*at + at/4
			o := someBatch()[at/4].Ops[at%4]
			for i, x := range []impl.Op{{Kind: n, Key: o.Key, Value: o.Value}, {Kind: o.Kind, Key: n, Value: o.Value}, {Kind: o.Kind, Key: o.Key, Value: n}} {
				changed := withNumber(text, place+i, n)
				list := someBatch()
				list[at/4].Ops[at%4] = x
				if plainOpOK(x) {
					entryIs(t, list, make([]int, 40), changed)
				} else {
					noEntry(t, fmt.Sprintf("%v at %d", x, at), changed)
				}
			}
		}
	}
	for _, o := range badOps() {
		if min(o.Kind, o.Key, o.Value) < 0 || max(o.Kind, o.Key, o.Value) > 4294967295 {
			continue
		}
		for at := range 8 {
			list := someBatch()
			list[at/4].Ops[at%4] = o
			noEntry(t, fmt.Sprintf("%v at %d", o, at), plainEntryText(list, make([]int, 40)))
		}
		noEntry(t, fmt.Sprintf("%v alone", o), plainEntryText([]impl.Txn{{Ops: []impl.Op{o}}}, make([]int, 40)))
	}
}

// Numbers around all bounds in each place of a text; none of them is above the
// highest value.
func TestNumbersInEachPlace(t *testing.T) {
	for _, k := range textKinds() {
		for _, text := range k.right[:min(len(k.right), 12)] {
			for at := range k.size {
				for _, n := range wordsAround {
					changed := withNumber(text, at, n)
					k.asPlain(t, changed)
					if n > 999999 {
						k.isNone(t, changed, impl.ErrForm)
					}
				}
			}
		}
	}
}

// A text that is changed in a byte is read as what it is then, which no other
// text is told of, or is none.
func TestEachByteOfATextCounts(t *testing.T) {
	for _, k := range textKinds() {
		right := 0
		for _, text := range k.right[:2] {
			for at := range text {
				for by := 1; by < 256; by++ {
					if k.asPlain(t, changedAt(text, at, byte(by))) {
						right++
					}
				}
			}
		}
		if right < 100 {
			t.Error(k.name, "read:", right)
		}
	}
}

// Promise 13: states, buckets and entries that are drawn are read back.
func TestTextsAreReadBack(t *testing.T) {
	r := rand.New(rand.NewSource(96))
	for i := range 4000 {
		e, results := stateByChance(r, i%13, r.Intn(12)), resultsByChance(r)
		stateIs(t, e, results, plainStateText(e, results))
		e = encByChance(r, r.Intn(12), 9999)
		stateIs(t, e, results, plainStateText(e, results))
		list := bucketByChance(r)
		bucketIs(t, list, plainBucketText(list))
		batch, draws := batchByChance(r), drawsByChance(r, 40, 1+r.Intn(8))
		entryIs(t, batch, draws, plainEntryText(batch, draws))
	}
}

// Promise 13 of hidden maps in the midst of their lives: a state and its
// buckets' texts tell all of one, and go on as it does.
func TestLivesAreReadBack(t *testing.T) {
	r := rand.New(rand.NewSource(97))
	fullest := 0
	for run := range 20 {
		e := newEnc(t, drawsByChance(r, 12, 1+run%8))
		for range 30 {
			x, results, _, code := impl.EncBatch(e, batchByChance(r), drawsByChance(r, 40, 1+run%8))
			if code != impl.OK {
				t.Fatal("EncBatch", code)
			}
			text, code := impl.StateText(x, results)
			y, back, readCode := impl.ReadState(text)
			if code != impl.OK || readCode != impl.OK || !slices.EqualFunc(back, results, alikeResult) {
				t.Fatal("ReadState", code, readCode, back, results)
			}
			for bucket, blocks := range x.Oram.Buckets {
				text, _ := impl.BucketText(blocks)
				list, code := impl.ReadBucket(text)
				if code != impl.OK || len(text) != 28 {
					t.Fatal("ReadBucket", code, len(text))
				}
				y.Oram.Buckets[bucket] = list
			}
			if diff := unlikeEncs(y, x); diff != "" {
				t.Fatal(diff)
			}
			fullest = max(fullest, len(x.Oram.Stash))
			e = y
		}
	}
	if fullest < 4 {
		t.Error("stashed:", fullest)
	}
}

// No reader panics at any text: what is drawn is read or none.
func TestNoReaderPanics(t *testing.T) {
	r := rand.New(rand.NewSource(98))
	for _, k := range textKinds() {
		for range 3000 {
			noise := make([]byte, 4*k.size)
			r.Read(noise)
			k.asPlain(t, string(noise))
			small := make([]int, k.size)
			for i := range small {
				small[i] = r.Intn(1 + r.Intn(14))
			}
			k.asPlain(t, plainText(small))
			k.isNone(t, textOf(r.Intn(3000)*4+1+r.Intn(3)), impl.ErrForm)
		}
		right, none := 0, 0
		for range 20000 {
			text := k.right[r.Intn(len(k.right))]
			for range 1 + r.Intn(2) {
				at, from := r.Intn(k.size), r.Intn(k.size)
				text = withNumber(text, at, []int{numberAt(text, from), r.Intn(14), wordsAround[r.Intn(len(wordsAround))], numberAt(text, at) + 1 - 2*r.Intn(2)}[r.Intn(4)])
			}
			if r.Intn(8) == 0 {
				// All numbers one place on.
				text = text[len(text)-4:] + text[:len(text)-4]
			}
			if k.asPlain(t, text) {
				right++
			} else {
				none++
			}
		}
		if right < 500 || none < 500 {
			t.Error(k.name, "drawn:", right, none)
		}
	}
}

// roomyResults have room behind the ends of their lists, with what is none of
// their own there.
func roomyResults(results []impl.Result) []impl.Result {
	out := append(slices.Clone(results), impl.Result{Code: 5, Values: []int{4, 3}}, impl.Result{Code: -1})[:len(results)]
	for i, r := range out {
		out[i].Values = append(slices.Clone(r.Values), 5, 6, -1)[:len(r.Values)]
	}
	return out
}

func brimOfResults(results []impl.Result) []impl.Result {
	out := slices.Clone(results[:cap(results)])
	for i := range out {
		out[i].Values = slices.Clone(out[i].Values[:cap(out[i].Values)])
	}
	return out
}

func TestNoTextChangesWhatItTells(t *testing.T) {
	lists := append(someResultLists(), []impl.Result{{Code: 20}}, make([]impl.Result, 3), []impl.Result{{Values: make([]int, 33)}}, make([]impl.Result, impl.MaxList+1))
	for i, e := range roomyEncs() {
		for _, results := range lists {
			results = roomyResults(results)
			kept, keptResults := keptEnc(brimOfEnc(e)), brimOfResults(results)
			impl.StateText(e, results)
			if diff := unlikeEncs(brimOfEnc(e), kept); diff != "" {
				t.Errorf("StateText changed map %d: %s", i, diff)
			}
			if !slices.EqualFunc(brimOfResults(results), keptResults, alikeResult) {
				t.Errorf("StateText changed %v", results)
			}
		}
	}
	r := rand.New(rand.NewSource(99))
	for range 300 {
		blocks := append(bucketByChance(r), blockByChance(r), impl.Block{Id: -1})
		kept := slices.Clone(blocks)
		for n := range len(blocks) + 1 {
			impl.BucketText(blocks[:n])
		}
		if !slices.Equal(blocks, kept) {
			t.Errorf("BucketText changed %v", kept)
		}
		list, draws := roomyBatch(batchByChance(r)), roomyDraws()
		keptList, keptDraws := keptBatch(brimOfBatch(list)), slices.Clone(draws[:cap(draws)])
		impl.EntryText(list, draws)
		impl.EntryText(list, draws[:39])
		impl.EntryText(list[:0], draws)
		if !alikeBatches(brimOfBatch(list), keptList) || !slices.Equal(draws[:cap(draws)], keptDraws) {
			t.Errorf("EntryText changed %v or %v", list, draws)
		}
	}
}

// Lists that share memory are told as any other.
func TestTextsOfOneMemory(t *testing.T) {
	values := countedResult(32, 9).Values
	results := []impl.Result{{Values: values[:20]}, {Values: values[10:]}}
	for _, e := range encsByChance(100, 100) {
		want := plainStateText(e, results)
		stateIs(t, impl.Enc{Keys: e.Keys, Oram: oneMemory(e.Oram)}, results, want)
	}
	numbers := []int{0, 1, 2, 3, 4, 5, 6, 7, 0, 0, 0, 2}
	e := impl.Enc{Keys: numbers[:11], Oram: impl.Oram{Pos: numbers, Buckets: make([][]impl.Block, 15)}}
	results = []impl.Result{{Values: numbers}, {Values: numbers[3:]}}
	stateIs(t, e, results, plainStateText(e, results))
	ops := someBatch()[0].Ops
	for _, list := range [][]impl.Txn{oneListOfOps(someBatch()), {{Ops: ops}, {Ops: ops}}, {{Ops: ops[:3]}, {Ops: ops[1:]}}} {
		entryIs(t, list, make([]int, 40), plainEntryText(list, make([]int, 40)))
	}
}

func TestNoListsOfAReadStateShareMemory(t *testing.T) {
	read := func(text string) encAnswer {
		e, results, code := impl.ReadState(text)
		return encAnswer{enc: e, results: results, code: code}
	}
	for i, text := range append(stateTexts(), "", withNumber(stateTexts()[0], 139, 1)) {
		kept := strings.Clone(text)
		want := read(text).kept()
		for place := 0; ; place++ {
			x := read(text)
			if !x.spoilOne(place, want) {
				break
			}
			if !x.alike(want) {
				t.Errorf("ReadState of text %d: list %d is shared", i, place)
			}
		}
		x, y := read(text), read(text)
		x.spoil()
		if !y.alike(want) || !read(text).alike(want) || text != kept {
			t.Errorf("ReadState of text %d: two answers share memory", i)
		}
	}
}

func TestNoListsOfAReadBucketOrEntryShareMemory(t *testing.T) {
	for _, text := range bucketTexts() {
		want, _ := plainReadBucket(text)
		x, _ := impl.ReadBucket(text)
		y, _ := impl.ReadBucket(text)
		spoilBlocks(x)
		if !slices.Equal(y, want) {
			t.Errorf("ReadBucket %x: two answers share memory", text)
		}
		bucketIs(t, want, text)
	}
	for _, text := range entryTexts() {
		want, wantDraws, _ := plainReadEntry(text)
		for i := range want {
			x, draws, _ := impl.ReadEntry(text)
			spoilOps(x[i].Ops)
			if x[i] = want[i]; !alikeBatches(x, want) || !slices.Equal(draws, wantDraws) {
				t.Errorf("ReadEntry %x: transaction %d is shared", text, i)
			}
		}
		x, draws, _ := impl.ReadEntry(text)
		y, tape, _ := impl.ReadEntry(text)
		spoilNumbers(draws)
		if !alikeBatches(x, want) {
			t.Errorf("ReadEntry %x: the draws are shared", text)
		}
		for _, txn := range x {
			spoilOps(txn.Ops)
		}
		clear(x[:cap(x)])
		if !alikeBatches(y, want) || !slices.Equal(tape, wantDraws) {
			t.Errorf("ReadEntry %x: two answers share memory", text)
		}
		entryIs(t, want, wantDraws, text)
	}
}
