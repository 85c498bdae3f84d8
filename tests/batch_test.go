package tests

import (
	"fmt"
	"math"
	"math/rand"
	"regexp"
	"slices"
	"strconv"
	"strings"
	"testing"

	"loop.example/g00548/impl"
)

// opKind is what the document says of a kind of operations. told says whether
// its text has Value.
type opKind struct {
	kind        int
	word        string
	least, most int
	told        bool
}

var (
	opKinds = []opKind{
		{1, "get", 0, 0, false},
		{2, "put", 0, 999999, true},
		{3, "drop", 0, 0, false},
		{4, "check", 0, 999999, true},
		{5, "add", 0, 999999, true},
		{6, "scan", 1, 4, true},
	}
	edgeKeys     = []int{1, 2, 9, 10, 99, 100, 1000, 9998, 9999}
	wrongOpKinds = []int{math.MinInt, math.MinInt + 1, -4294967295, -255, -6, -2, -1, 0, 7, 8, 255, 256, 257, 262, 4294967296, 4294967297, math.MaxInt - 1, math.MaxInt}
	wrongOpKeys  = []int{math.MinInt, math.MinInt + 1, -4294967295, -9999, -2, -1, 0, 10000, 10001, 65537, 4294967296, 4294967297, math.MaxInt - 1, math.MaxInt}
	farNumbers   = []int{math.MinInt, math.MinInt + 1, -4294967296, -4294967295, -999999, -1, 1000000, 1000001, 4294967296, 4294967297, math.MaxInt - 1, math.MaxInt}

	// The texts of operations by hand, their bounds among them.
	keyForm   = ` +([1-9][0-9]{0,3})`
	plainForm = []*regexp.Regexp{
		regexp.MustCompile(`^ *(get|drop)` + keyForm + ` *$`),
		regexp.MustCompile(`^ *(put|check|add)` + keyForm + ` +(0|[1-9][0-9]{0,5}) *$`),
		regexp.MustCompile(`^ *(scan)` + keyForm + ` +([1-4]) *$`),
	}

	// What is no number's text, or one's that is out of all bounds.
	noNumbers = []string{
		"00", "01", "05", "000", "007", "0001", "09999", "000000000000000001", "0000000000000000001",
		"-0", "-1", "-5", "-9999", "-01", "--1", "+0", "+1", "+5", "-", "+", "1-", "-1-",
		"111111111111111111", "999999999999999999", "1111111111111111111", "9223372036854775807", "9223372036854775808",
		"-9223372036854775808", "18446744073709551616", "18446744073709551617", "4294967296", "4294967297", "36893488147419103233",
		strings.Repeat("1", 40), strings.Repeat("0", 40) + "1", "1" + strings.Repeat("0", 1000), strings.Repeat("9", 30000),
		"1.", "1.0", ".1", "1e0", "1e3", "0x1", "0b1", "0o1", "1_0", "1,000", "a", "1a", "a1", "one", "x", "\x00", "1\x00", "\x001",
		"1\t", "\t1", "1\n", "\xff", "1\xff", "½", "¹", "١", "１", "get", "put",
	}
)

func kindsOf(told bool) []opKind {
	var out []opKind
	for _, k := range opKinds {
		if k.told == told {
			out = append(out, k)
		}
	}
	return out
}

// edges are values at the bounds of a kind and between them.
func (k opKind) edges() []int {
	switch k.most {
	case 0:
		return []int{0}
	case 4:
		return []int{1, 2, 3, 4}
	}
	return []int{0, 1, 9, 10, 100, 12345, 999998, 999999}
}

func (k opKind) wrong() []int {
	return append([]int{k.least - 1, k.least - 2, k.most + 1, k.most + 2}, farNumbers...)
}

func (k opKind) op(key, value int) impl.Op {
	return impl.Op{Kind: k.kind, Key: key, Value: value}
}

// text joins the words of an operation as they are handed in; value counts
// only if it is told.
func (k opKind) text(key, value string) string {
	if k.told {
		return k.word + " " + key + " " + value
	}
	return k.word + " " + key
}

func plainOpOK(o impl.Op) bool {
	for _, k := range opKinds {
		if k.kind == o.Kind {
			return o.Key >= 1 && o.Key <= 9999 && o.Value >= k.least && o.Value <= k.most
		}
	}
	return false
}

func plainOpText(o impl.Op) string {
	return opKinds[o.Kind-1].text(fmt.Sprint(o.Key), fmt.Sprint(o.Value))
}

func plainReadOp(text string) (impl.Op, bool) {
	for _, form := range plainForm {
		found := form.FindStringSubmatch(text)
		if found == nil {
			continue
		}
		var o impl.Op
		for _, k := range opKinds {
			if k.word == found[1] {
				o.Kind = k.kind
			}
		}
		o.Key, _ = strconv.Atoi(found[2])
		if len(found) == 4 {
			o.Value, _ = strconv.Atoi(found[3])
		}
		return o, true
	}
	return impl.Op{}, false
}

func plainBatchText(list []impl.Txn) string {
	out := ""
	for i, txn := range list {
		if i > 0 {
			out += " | "
		}
		for k, o := range txn.Ops {
			if k > 0 {
				out += "; "
			}
			out += plainOpText(o)
		}
	}
	return out
}

func plainReadBatch(text string) ([]impl.Txn, bool) {
	var list []impl.Txn
	for _, part := range strings.Split(text, "|") {
		var txn impl.Txn
		for _, piece := range strings.Split(part, ";") {
			o, right := plainReadOp(piece)
			if !right {
				return nil, false
			}
			txn.Ops = append(txn.Ops, o)
		}
		if len(txn.Ops) > 4 {
			return nil, false
		}
		list = append(list, txn)
	}
	return list, len(list) <= 2
}

func rightOps() []impl.Op {
	var out []impl.Op
	for _, k := range opKinds {
		for _, key := range edgeKeys {
			for _, value := range k.edges() {
				out = append(out, k.op(key, value))
			}
		}
	}
	return out
}

// badOps are not right in one thing alone, and some in more.
func badOps() []impl.Op {
	out := []impl.Op{{}, {Kind: 7}, {Kind: 1, Value: 1}, {Key: 1, Value: 1}, {Key: 1}, {Value: 1}}
	for _, k := range opKinds {
		for _, key := range wrongOpKeys {
			out = append(out, k.op(key, k.least), k.op(key, k.most), k.op(key, k.most+1))
		}
		for _, value := range k.wrong() {
			out = append(out, k.op(1, value), k.op(9999, value))
		}
	}
	for _, kind := range wrongOpKinds {
		for _, value := range []int{0, 1, 4, 5, 999999, 1000000} {
			out = append(out, impl.Op{Kind: kind, Key: 1, Value: value}, impl.Op{Kind: kind, Key: 9999, Value: value})
		}
	}
	return out
}

func opByChance(r *rand.Rand) impl.Op {
	k := opKinds[r.Intn(6)]
	key, value := 1+r.Intn(9999), k.least+r.Intn(k.most-k.least+1)
	if r.Intn(2) == 0 {
		key = edgeKeys[r.Intn(len(edgeKeys))]
		value = k.edges()[r.Intn(len(k.edges()))]
	}
	return k.op(key, value)
}

func batchByChance(r *rand.Rand) []impl.Txn {
	return batchOf(r, 1+r.Intn(2), 1+r.Intn(4), 1+r.Intn(4))
}

// batchOf has so many transactions of so many operations, beginning with the
// first number again behind the last.
func batchOf(r *rand.Rand, txns int, ops ...int) []impl.Txn {
	list := make([]impl.Txn, txns)
	for i := range list {
		for range ops[i%len(ops)] {
			list[i].Ops = append(list[i].Ops, opByChance(r))
		}
	}
	return list
}

// someBatch is as long as a batch may be, and has all kinds.
func someBatch() []impl.Txn {
	return []impl.Txn{
		{Ops: []impl.Op{{Kind: 2, Key: 7, Value: 50}, {Kind: 1, Key: 7}, {Kind: 4, Key: 9, Value: 999999}, {Kind: 6, Key: 1, Value: 4}}},
		{Ops: []impl.Op{{Kind: 3, Key: 9999}, {Kind: 5, Key: 8, Value: 0}, {Kind: 1, Key: 7}, {Kind: 6, Key: 9998, Value: 1}}},
	}
}

// someShortBatch has one operation of each sort.
func someShortBatch() []impl.Txn {
	return []impl.Txn{{Ops: []impl.Op{{Kind: 1, Key: 5}, {Kind: 5, Key: 6, Value: 7}}}, {Ops: []impl.Op{{Kind: 6, Key: 8, Value: 2}}}}
}

func rightBatches() map[string][]impl.Txn {
	r := rand.New(rand.NewSource(40))
	right := map[string][]impl.Txn{"all kinds": someBatch(), "short": someShortBatch()}
	for first := 1; first <= 4; first++ {
		right[fmt.Sprintf("one of %d", first)] = batchOf(r, 1, first)
		for second := 1; second <= 4; second++ {
			right[fmt.Sprintf("of %d and %d", first, second)] = batchOf(r, 2, first, second)
		}
	}
	for _, o := range rightOps() {
		right[fmt.Sprintf("of %v alone", o)] = []impl.Txn{{Ops: []impl.Op{o}}}
	}
	return right
}

// badBatches are all that is not right, each in one thing alone.
func badBatches() map[string][]impl.Txn {
	r := rand.New(rand.NewSource(41))
	bad := map[string][]impl.Txn{"nil": nil, "none": {}}
	for _, n := range []int{3, 4, 8, impl.MaxList} {
		bad[fmt.Sprintf("%d transactions", n)] = batchOf(r, n, 1)
	}
	for _, n := range []int{0, 5, 6, 8, impl.MaxList, impl.MaxList + 1} {
		bad[fmt.Sprintf("%d operations", n)] = batchOf(r, 1, n)
		bad[fmt.Sprintf("%d operations ahead", n)] = batchOf(r, 2, n, 2)
		bad[fmt.Sprintf("%d operations behind", n)] = batchOf(r, 2, 2, n)
		bad[fmt.Sprintf("%d operations in both", n)] = batchOf(r, 2, n)
	}
	bad["an empty list of operations"] = []impl.Txn{{Ops: []impl.Op{}}}
	for _, o := range badOps() {
		bad[fmt.Sprintf("%v alone", o)] = []impl.Txn{{Ops: []impl.Op{o}}}
		for _, at := range []int{0, 2, 3, 4, 5, 7} {
			list := someBatch()
			list[at/4].Ops[at%4] = o
			bad[fmt.Sprintf("%v at %d", o, at)] = list
		}
	}
	return bad
}

func keptBatch(list []impl.Txn) []impl.Txn {
	out := slices.Clone(list)
	for i := range out {
		out[i].Ops = slices.Clone(out[i].Ops)
	}
	return out
}

func alikeBatches(a, b []impl.Txn) bool {
	return slices.EqualFunc(a, b, func(x, y impl.Txn) bool { return slices.Equal(x.Ops, y.Ops) })
}

func opTextIs(t *testing.T, o impl.Op, want string) {
	t.Helper()
	if text, code := impl.OpText(o); text != want || code != impl.OK {
		t.Errorf("OpText %v: %q %d, not %q", o, text, code, want)
	}
}

func noOpText(t *testing.T, o impl.Op) {
	t.Helper()
	if text, code := impl.OpText(o); text != "" || code != impl.ErrBad {
		t.Errorf("OpText %v: %q %d", o, text, code)
	}
}

func opReadsAs(t *testing.T, text string, want impl.Op) {
	t.Helper()
	if o, code := impl.ReadOp(text); o != want || code != impl.OK {
		t.Errorf("ReadOp %.60q: %v %d, not %v", text, o, code, want)
	}
}

func noOp(t *testing.T, text string, want int) {
	t.Helper()
	if o, code := impl.ReadOp(text); o != (impl.Op{}) || code != want {
		t.Errorf("ReadOp %.60q of %d bytes: %v %d, not %d", text, len(text), o, code, want)
	}
}

func opAsPlain(t *testing.T, text string) {
	t.Helper()
	if o, right := plainReadOp(text); right {
		opReadsAs(t, text, o)
	} else {
		noOp(t, text, impl.ErrForm)
	}
}

func batchTextIs(t *testing.T, list []impl.Txn, want string) {
	t.Helper()
	if text, code := impl.BatchText(list); text != want || code != impl.OK {
		t.Errorf("BatchText %v: %q %d, not %q", list, text, code, want)
	}
}

func noBatchText(t *testing.T, name string, list []impl.Txn, want int) {
	t.Helper()
	if text, code := impl.BatchText(list); text != "" || code != want {
		t.Errorf("BatchText, %s: %q %d, not %d", name, text, code, want)
	}
}

func batchReadsAs(t *testing.T, text string, want []impl.Txn) {
	t.Helper()
	list, code := impl.ReadBatch(text)
	if !alikeBatches(list, want) || code != impl.OK || !impl.BatchOK(list) {
		t.Errorf("ReadBatch %.100q: %v %d, not %v", text, list, code, want)
	}
}

func noBatch(t *testing.T, text string, want int) {
	t.Helper()
	if list, code := impl.ReadBatch(text); len(list) != 0 || code != want {
		t.Errorf("ReadBatch %.100q of %d bytes: %v %d, not %d", text, len(text), list, code, want)
	}
}

func batchAsPlain(t *testing.T, text string) {
	t.Helper()
	if list, right := plainReadBatch(text); right {
		batchReadsAs(t, text, list)
	} else {
		noBatch(t, text, impl.ErrForm)
	}
}

func TestBoundsOfBatches(t *testing.T) {
	if impl.MaxOps != 4 || impl.MaxTxns != 2 || impl.MaxId != 9999 || impl.MaxScan != 4 {
		t.Error(impl.MaxOps, impl.MaxTxns, impl.MaxId, impl.MaxScan)
	}
	kinds := []int{impl.OpGet, impl.OpPut, impl.OpDrop, impl.OpCheck, impl.OpAdd, impl.OpScan}
	for i, k := range opKinds {
		if kinds[i] != k.kind {
			t.Error(k.word, kinds[i])
		}
	}
}

func TestRightOps(t *testing.T) {
	for _, o := range rightOps() {
		if !impl.OpOK(o) {
			t.Error("OpOK", o)
		}
	}
}

func TestBadOps(t *testing.T) {
	for _, o := range badOps() {
		if impl.OpOK(o) {
			t.Error("OpOK", o)
		}
		noOpText(t, o)
	}
}

func TestOpsAroundTheirBounds(t *testing.T) {
	kinds := append([]int{-1, 0, 1, 2, 3, 4, 5, 6, 7, 8}, math.MinInt, math.MaxInt)
	keys := []int{math.MinInt, -2, -1, 0, 1, 2, 5000, 9998, 9999, 10000, 10001, math.MaxInt}
	values := []int{math.MinInt, -2, -1, 0, 1, 2, 3, 4, 5, 6, 9999, 10000, 999998, 999999, 1000000, 1000001, math.MaxInt}
	right := 0
	for _, kind := range kinds {
		for _, key := range keys {
			for _, value := range values {
				o := impl.Op{Kind: kind, Key: key, Value: value}
				want := plainOpOK(o)
				if impl.OpOK(o) != want {
					t.Errorf("OpOK %v: not %v", o, want)
				}
				if want {
					right++
					opTextIs(t, o, plainOpText(o))
				} else {
					noOpText(t, o)
				}
			}
		}
	}
	// Five keys; of the values one, eleven or four.
	if right != 5*(2*1+3*11+4) {
		t.Error(right, "are right")
	}
}

func TestKnownTextsOfOps(t *testing.T) {
	for text, o := range map[string]impl.Op{
		"get 1":             {Kind: impl.OpGet, Key: 1},
		"get 9999":          {Kind: impl.OpGet, Key: 9999},
		"put 1 0":           {Kind: impl.OpPut, Key: 1, Value: 0},
		"put 9999 999999":   {Kind: impl.OpPut, Key: 9999, Value: 999999},
		"drop 1":            {Kind: impl.OpDrop, Key: 1},
		"drop 9999":         {Kind: impl.OpDrop, Key: 9999},
		"check 1 0":         {Kind: impl.OpCheck, Key: 1, Value: 0},
		"check 9999 999999": {Kind: impl.OpCheck, Key: 9999, Value: 999999},
		"add 1 0":           {Kind: impl.OpAdd, Key: 1, Value: 0},
		"add 9999 999999":   {Kind: impl.OpAdd, Key: 9999, Value: 999999},
		"scan 1 1":          {Kind: impl.OpScan, Key: 1, Value: 1},
		"scan 9999 4":       {Kind: impl.OpScan, Key: 9999, Value: 4},
	} {
		opTextIs(t, o, text)
		opReadsAs(t, text, o)
		batchTextIs(t, []impl.Txn{{Ops: []impl.Op{o}}}, text)
		batchReadsAs(t, text, []impl.Txn{{Ops: []impl.Op{o}}})
	}
}

func TestOpsAreReadBack(t *testing.T) {
	for _, o := range rightOps() {
		opTextIs(t, o, plainOpText(o))
		opReadsAs(t, plainOpText(o), o)
	}
	// Each key and each value of few digits, and some of the others.
	for n := 1; n <= 9999; n++ {
		for _, o := range []impl.Op{{Kind: 1, Key: n}, {Kind: 5, Key: n, Value: n}, {Kind: 2, Key: 1, Value: 100 * n}, {Kind: 6, Key: n, Value: 1 + n%4}} {
			text, _ := impl.OpText(o)
			opReadsAs(t, text, o)
		}
	}
}

func TestBlanksOfOps(t *testing.T) {
	several := []string{" ", "  ", strings.Repeat(" ", 9), strings.Repeat(" ", 3000)}
	for _, k := range opKinds {
		for _, ahead := range append(several, "") {
			for _, behind := range append(several, "") {
				for _, between := range several {
					for _, last := range several {
						words := k.word + between + "7"
						if k.told {
							words += last + "3"
						}
						o := k.op(7, 0)
						if k.told {
							o.Value = 3
						}
						opReadsAs(t, ahead+words+behind, o)
						batchReadsAs(t, ahead+words+behind, []impl.Txn{{Ops: []impl.Op{o}}})
					}
				}
			}
		}
		noOp(t, strings.ReplaceAll(k.text("7", "3"), " ", ""), impl.ErrForm)
		noOp(t, strings.Replace(k.text("7", "3"), " ", "", 1), impl.ErrForm)
	}
	// Blanks within a word part it.
	for _, text := range []string{"p ut 1 5", "pu t 1 5", "put 1 5 0", "put 1 99 99", "ge t 1", "get 1 0", "get 9 9", "scan 1 1 1", "che ck 1 1"} {
		noOp(t, text, impl.ErrForm)
	}
	noOp(t, "", impl.ErrForm)
	for _, n := range []int{1, 2, 3, 100, impl.MaxText - 1, impl.MaxText} {
		noOp(t, strings.Repeat(" ", n), impl.ErrForm)
		noBatch(t, strings.Repeat(" ", n), impl.ErrForm)
	}
}

// Only blanks are blanks: no other byte, nor what texts elsewhere call spaces.
func TestOtherBytesThanBlanks(t *testing.T) {
	others := []string{"\t\t", "\r\n", "\u0085", "\u00a0", "\u1680", "\u2003", "\u2028", "\u202f", "\u3000", "\ufeff", "\u200b", "\xc2", "\xe2\x80", "\xa0", "\x85"}
	for b := range 256 {
		if b != ' ' {
			others = append(others, string([]byte{byte(b)}))
		}
	}
	for _, k := range opKinds {
		text := k.text("7", "3")
		for _, other := range others {
			changed := []string{other + text, text + other, other + " " + text, text + " " + other, " " + other + text + " ", " " + text + other + " "}
			for at := range len(text) {
				if text[at] == ' ' {
					changed = append(changed, text[:at]+other+text[at+1:], text[:at]+other+text[at:], text[:at+1]+other+text[at+1:], text[:at]+" "+other+" "+text[at+1:])
				}
			}
			for _, c := range changed {
				if strings.Trim(other, "0123456789") == "" {
					opAsPlain(t, c)
					continue
				}
				noOp(t, c, impl.ErrForm)
				batchAsPlain(t, c)
			}
			noOp(t, other, impl.ErrForm)
			noBatch(t, other, impl.ErrForm)
		}
	}
}

func TestWordsThatAreNoKinds(t *testing.T) {
	words := []string{"go", "set", "getput", "gets", "got", "puts", "drops", "checks", "adds", "scans", "sub", "del", "0", "1", "2", "6", "7", "-", "\x00", "\xff", "get\x00", "\x00get", "ok", "submit"}
	for _, k := range opKinds {
		words = append(words, strings.ToUpper(k.word), strings.ToUpper(k.word[:1])+k.word[1:], k.word[:len(k.word)-1]+strings.ToUpper(k.word[len(k.word)-1:]))
		for n := 1; n < len(k.word); n++ {
			words = append(words, k.word[:n], k.word[n:])
		}
		words = append(words, k.word+k.word, k.word+"1", "1"+k.word, k.word+"_", strings.Repeat(k.word, 10000))
	}
	for _, word := range words {
		for _, text := range []string{word, word + " 1", word + " 1 1", word + " 1 1 1", " " + word + "  1  0 "} {
			noOp(t, text, impl.ErrForm)
			noBatch(t, text, impl.ErrForm)
		}
	}
}

func TestNumbersTooFewOrTooMany(t *testing.T) {
	for _, k := range opKinds {
		right := 1
		if k.told {
			right = 2
		}
		for n := range 8 {
			// All numbers are 1, which is a key, and a value of all that have one.
			for _, number := range []string{" 1", "  1"} {
				text := k.word + strings.Repeat(number, n)
				if n == right {
					opReadsAs(t, text, k.op(1, right-1))
					continue
				}
				noOp(t, text, impl.ErrForm)
				noOp(t, " "+text+" ", impl.ErrForm)
				noBatch(t, text, impl.ErrForm)
			}
		}
		// A nought too many, which is what is not told.
		noOp(t, k.text("1", "1")+" 0", impl.ErrForm)
		noOp(t, "0 "+k.text("1", "1"), impl.ErrForm)
		noOp(t, "1 "+k.text("1", "1"), impl.ErrForm)
		noOp(t, "1 "+k.word, impl.ErrForm)
		noOp(t, "1 "+k.word+" 1", impl.ErrForm)
		noOp(t, k.word+" "+k.text("1", "1"), impl.ErrForm)
		noOp(t, k.word+" ", impl.ErrForm)
		noOp(t, k.word+strings.Repeat(" 1", 30000), impl.ErrForm)
	}
}

func TestNumbersOfOps(t *testing.T) {
	for _, k := range opKinds {
		for _, number := range noNumbers {
			noOp(t, k.text(number, "1"), impl.ErrForm)
			noOp(t, k.text(number, number), impl.ErrForm)
			noBatch(t, k.text(number, "1"), impl.ErrForm)
			if k.told {
				noOp(t, k.text("1", number), impl.ErrForm)
				noBatch(t, k.text("1", number), impl.ErrForm)
			}
		}
		for _, key := range wrongOpKeys {
			for _, value := range k.edges() {
				noOp(t, k.text(fmt.Sprint(key), fmt.Sprint(value)), impl.ErrForm)
			}
		}
		for _, value := range k.wrong() {
			if k.told {
				noOp(t, k.text("1", fmt.Sprint(value)), impl.ErrForm)
				noOp(t, k.text("9999", fmt.Sprint(value)), impl.ErrForm)
			}
		}
	}
	// A lone nought is a number, a key never is.
	for _, k := range kindsOf(true)[:3] {
		opReadsAs(t, k.text("1", "0"), k.op(1, 0))
		noOp(t, k.text("0", "0"), impl.ErrForm)
	}
	noOp(t, "scan 1 0", impl.ErrForm)
	for _, k := range kindsOf(false) {
		noOp(t, k.text("0", ""), impl.ErrForm)
	}
}

// Each number around the bounds, and each of few digits with noughts ahead.
func TestNumbersWithNoughtsAhead(t *testing.T) {
	for n := range 130 {
		for _, number := range []string{fmt.Sprint(n), "0" + fmt.Sprint(n), "00" + fmt.Sprint(n), fmt.Sprintf("%04d", n), fmt.Sprintf("%018d", n), fmt.Sprintf("%019d", n), fmt.Sprintf("%+d", n), fmt.Sprint(-n), "-" + fmt.Sprint(n)} {
			for _, k := range opKinds {
				opAsPlain(t, k.text(number, "2"))
				opAsPlain(t, k.text("2", number))
			}
		}
	}
	for _, from := range []int{9990, 99990, 999990} {
		for n := from; n < from+20; n++ {
			for _, k := range opKinds {
				opAsPlain(t, k.text(fmt.Sprint(n), "2"))
				opAsPlain(t, k.text("2", fmt.Sprint(n)))
			}
		}
	}
}

func TestLongTextsOfOps(t *testing.T) {
	for _, k := range opKinds {
		text, o := k.text("7", "3"), k.op(7, 0)
		if k.told {
			o.Value = 3
		}
		for _, n := range []int{impl.MaxText - 1, impl.MaxText, impl.MaxText + 1, impl.MaxText + 2} {
			blanks := strings.Repeat(" ", n-len(text))
			for _, long := range []string{blanks + text, text + blanks, strings.Replace(text, " ", " "+blanks, 1)} {
				if n > impl.MaxText {
					noOp(t, long, impl.ErrLong)
					noBatch(t, long, impl.ErrLong)
					continue
				}
				opReadsAs(t, long, o)
				batchReadsAs(t, long, []impl.Txn{{Ops: []impl.Op{o}}})
			}
		}
	}
}

// What is too long is told ahead of what is no operation or batch.
func TestLongTextsThatAreNone(t *testing.T) {
	for _, piece := range []string{" ", "x", "0", "1", "get 1 ", "get 1;", "get 1|", ";", "|", "|;", " ;", "\x00", "put 1 5; get 1 | "} {
		text := strings.Repeat(piece, impl.MaxText/len(piece)+2)
		noOp(t, text[:impl.MaxText], impl.ErrForm)
		noOp(t, text[:impl.MaxText+1], impl.ErrLong)
		noBatch(t, text[:impl.MaxText], impl.ErrForm)
		noBatch(t, text[:impl.MaxText+1], impl.ErrLong)
	}
	for _, n := range []int{impl.MaxText, impl.MaxText + 1} {
		want := map[bool]int{true: impl.ErrLong, false: impl.ErrForm}[n > impl.MaxText]
		noOp(t, textOf(n), want)
		noBatch(t, textOf(n), want)
		noOp(t, "get "+strings.Repeat("1", n-4), want)
		noBatch(t, "get "+strings.Repeat("0", n-5)+"1", want)
	}
}

func TestRightBatches(t *testing.T) {
	for name, list := range rightBatches() {
		if !impl.BatchOK(list) {
			t.Error("BatchOK", name)
		}
	}
}

func TestBadBatches(t *testing.T) {
	for name, list := range badBatches() {
		if impl.BatchOK(list) {
			t.Error("BatchOK", name)
		}
		noBatchText(t, name, list, impl.ErrBad)
	}
}

// Lists over MaxList are no batches, and that they are long is told ahead of
// what else is not right. Of lists within them no length is told.
func TestLongLists(t *testing.T) {
	r := rand.New(rand.NewSource(42))
	long := map[string][]impl.Txn{
		"right transactions":        batchOf(r, impl.MaxList+1, 1),
		"transactions of none":      make([]impl.Txn, impl.MaxList+1),
		"transactions of too many":  batchOf(r, impl.MaxList+2, 5),
		"operations that are bad":   slices.Repeat([]impl.Txn{{Ops: []impl.Op{{}}}}, impl.MaxList+1),
		"one long list in it":       append(batchOf(r, impl.MaxList, 1), batchOf(r, 1, impl.MaxList+1)...),
		"many more than are listed": make([]impl.Txn, 100000),
	}
	for name, list := range long {
		if impl.BatchOK(list) || impl.SameBatch(list, list) {
			t.Error("BatchOK", name)
		}
		noBatchText(t, name, list, impl.ErrLong)
	}
	for _, n := range []int{impl.MaxList, impl.MaxList + 1, 100000} {
		noBatchText(t, "a long list of operations", batchOf(r, 1, n), impl.ErrBad)
		noBatchText(t, "a long list of operations behind", batchOf(r, 2, 1, n), impl.ErrBad)
	}
}

func TestKnownTextsOfBatches(t *testing.T) {
	text := "put 7 50; get 7; check 9 999999; scan 1 4 | drop 9999; add 8 0; get 7; scan 9998 1"
	batchTextIs(t, someBatch(), text)
	batchReadsAs(t, text, someBatch())
	batchTextIs(t, someShortBatch(), "get 5; add 6 7 | scan 8 2")
	batchReadsAs(t, "get 5; add 6 7 | scan 8 2", someShortBatch())
	batchReadsAs(t, "get 5;add 6 7|scan 8 2", someShortBatch())
	batchReadsAs(t, "  get   5  ;add  6 7 |scan 8    2   ", someShortBatch())
	one := someShortBatch()[:1]
	batchTextIs(t, one, "get 5; add 6 7")
	batchReadsAs(t, "get 5; add 6 7", one)
	two := []impl.Txn{{Ops: one[0].Ops[:1]}, {Ops: one[0].Ops[1:]}}
	batchTextIs(t, two, "get 5 | add 6 7")
	batchReadsAs(t, "get 5|add 6 7", two)
}

func TestBatchesAreReadBack(t *testing.T) {
	for _, list := range rightBatches() {
		batchTextIs(t, list, plainBatchText(list))
		batchReadsAs(t, plainBatchText(list), list)
	}
}

// withBlanks has other blanks wherever a text of a batch may have some.
func withBlanks(r *rand.Rand, text string, most int) string {
	blanks := func(least int) string { return strings.Repeat(" ", least+r.Intn(most+1)) }
	out := blanks(0)
	for _, word := range strings.Fields(strings.NewReplacer(";", " ; ", "|", " | ").Replace(text)) {
		if word == ";" || word == "|" {
			out = strings.TrimRight(out, " ") + blanks(0) + word + blanks(0)
		} else {
			out += word + blanks(1)
		}
	}
	if r.Intn(2) == 0 {
		out = strings.TrimRight(out, " ")
	}
	return out
}

// Promise 10.
func TestDrawnBatchesAreReadBack(t *testing.T) {
	r := rand.New(rand.NewSource(43))
	for range 5000 {
		list := batchByChance(r)
		text, code := impl.BatchText(list)
		if code != impl.OK || text != plainBatchText(list) {
			t.Fatalf("BatchText %v: %q %d", list, text, code)
		}
		batchReadsAs(t, text, list)
		for _, most := range []int{0, 1, 4, 60} {
			loose := withBlanks(r, text, most)
			batchReadsAs(t, loose, list)
			back, _ := impl.ReadBatch(loose)
			batchTextIs(t, back, text)
			if !impl.SameBatch(back, list) {
				t.Errorf("SameBatch %v %v", back, list)
			}
		}
	}
}

func TestBlanksAroundEachCut(t *testing.T) {
	several := []string{"", " ", "   ", strings.Repeat(" ", 500)}
	for _, list := range [][]impl.Txn{someBatch(), someShortBatch()} {
		text := plainBatchText(list)
		for at := range len(text) {
			if text[at] != ';' && text[at] != '|' {
				continue
			}
			for _, ahead := range several {
				for _, behind := range several {
					changed := strings.TrimRight(text[:at], " ") + ahead + text[at:at+1] + behind + strings.TrimLeft(text[at+1:], " ")
					batchReadsAs(t, changed, list)
				}
			}
			for _, other := range []string{"\t", "\n", "\r", "\x00", "\u00a0", ",", "."} {
				noBatch(t, text[:at]+other+text[at:], impl.ErrForm)
				noBatch(t, text[:at+1]+other+text[at+1:], impl.ErrForm)
				noBatch(t, text[:at]+other+text[at+1:], impl.ErrForm)
			}
		}
	}
}

// A cut more leaves a piece without an operation wherever it stands between
// operations, and at both ends.
func TestCutsTooMany(t *testing.T) {
	for _, list := range []string{"get 1", "get 1;put 2 5", "get 1|put 2 5", "get 1;get 2|drop 3;scan 4 1", "get 1;get 2;get 3|add 4 4"} {
		for at := range len(list) + 1 {
			if at > 0 && at < len(list) && !strings.ContainsAny(list[at-1:at+1], ";|") {
				continue
			}
			for _, cut := range []string{";", "|", " ; ", " | ", ";;", "||", ";|", "|;", "; ;", "| |", " ;  | ", ";\t", "\t|"} {
				noBatch(t, list[:at]+cut+list[at:], impl.ErrForm)
				noBatch(t, " "+list[:at]+" "+cut+" "+list[at:]+" ", impl.ErrForm)
			}
		}
	}
	for _, text := range []string{"", ";", "|", ";;", "||", ";|", "|;", ";|;", "; ", " ;", "| ", " |", " ; ; ", " | | "} {
		noBatch(t, text, impl.ErrForm)
		noOp(t, text, impl.ErrForm)
	}
	// An operation's text has no cut.
	for _, text := range []string{"get 1;", "get 1|", ";get 1", "|get 1", "get 1 ;", "get; 1", "get|1", "get 1;get 1", "get 1 | get 1", "put 1;5"} {
		noOp(t, text, impl.ErrForm)
	}
}

// What ends a text is an operation, with blanks behind it and nothing else.
func TestWhatEndsATextOfABatch(t *testing.T) {
	for _, list := range [][]impl.Txn{someBatch(), someShortBatch(), {{Ops: []impl.Op{{Kind: 1, Key: 1}}}}} {
		text := plainBatchText(list)
		for _, end := range []string{";", "|", " ;", " | ", ";  ", "\n", "\r\n", "\t", "\x00", " \n", "\n ", ".", ",", "#", " #", "x", " x", " 1", " 0", "-", "\xff", "\u00a0"} {
			noBatch(t, text+end, impl.ErrForm)
			noBatch(t, end+text, impl.ErrForm)
		}
		for _, end := range []string{"", " ", "  ", strings.Repeat(" ", 1000)} {
			batchReadsAs(t, text+end, list)
			batchReadsAs(t, end+text, list)
		}
	}
}

func TestTooManyOpsOrTransactions(t *testing.T) {
	op := map[bool]string{true: "get 1", false: "put 2 5"}
	for _, n := range []int{1, 2, 3, 4, 5, 6, 8, 9, 100, 5000} {
		ops := strings.TrimSuffix(strings.Repeat(op[n%2 == 0]+"; ", n), "; ")
		txns := strings.TrimSuffix(strings.Repeat(op[n%2 == 0]+" | ", n), " | ")
		for _, text := range []string{ops, ops + " | get 3", "get 3 | " + ops, ops + "|" + ops, txns, txns + "; get 3", "get 3; " + txns} {
			if len(text) > impl.MaxText {
				noBatch(t, text, impl.ErrLong)
			} else {
				batchAsPlain(t, text)
			}
		}
		if n > 4 {
			noBatch(t, ops, impl.ErrForm)
			noBatch(t, ops+"|get 3", impl.ErrForm)
			noBatch(t, "get 3|"+ops, impl.ErrForm)
		}
		if n > 2 {
			noBatch(t, txns, impl.ErrForm)
		}
	}
}

func TestOneOpThatIsNotRight(t *testing.T) {
	bad := []string{"", " ", "go 1", "GET 1", "get", "get 0", "get 10000", "get 01", "get 1 0", "get -1", "put 1", "put 1 -1", "put 1 1000000", "put 1 00", "add 1", "add 1 2 3", "check 1 +1", "scan 1 0", "scan 1 5", "drop 1 1", "get 1 put 2 3", "get\t1", "get 1\n", "get 1,", "put 1 1111111111111111111"}
	for _, list := range [][]impl.Txn{someBatch(), someShortBatch()} {
		for i := range list {
			for k := range list[i].Ops {
				for _, wrong := range bad {
					parts := make([]string, len(list))
					for x := range list {
						pieces := make([]string, len(list[x].Ops))
						for y, o := range list[x].Ops {
							pieces[y] = plainOpText(o)
						}
						if x == i {
							pieces[k] = wrong
						}
						parts[x] = strings.Join(pieces, "; ")
					}
					noBatch(t, strings.Join(parts, " | "), impl.ErrForm)
				}
			}
		}
	}
}

func TestLongTextsOfBatches(t *testing.T) {
	for _, list := range [][]impl.Txn{someBatch(), someShortBatch()} {
		text := plainBatchText(list)
		for _, n := range []int{impl.MaxText - 1, impl.MaxText, impl.MaxText + 1, impl.MaxText + 2} {
			blanks := strings.Repeat(" ", n-len(text))
			for _, long := range []string{blanks + text, text + blanks, strings.Replace(text, ";", blanks+";", 1), strings.Replace(text, "|", "|"+blanks, 1)} {
				if n > impl.MaxText {
					noBatch(t, long, impl.ErrLong)
					continue
				}
				batchReadsAs(t, long, list)
				noBatch(t, long[:len(long)-1]+";", impl.ErrForm)
				noBatch(t, "|"+long[1:], impl.ErrForm)
			}
		}
	}
}

// Texts of the pieces that operations are made of, in any order.
func TestTextsByChance(t *testing.T) {
	r := rand.New(rand.NewSource(44))
	pieces := []string{"get", "put", "drop", "check", "add", "scan", "0", "1", "4", "5", "01", "-1", "9999", "10000", "999999", "1000000", " ", " ", " ", "  ", ";", "|"}
	for range 60000 {
		text := ""
		for range r.Intn(9) {
			text += pieces[r.Intn(len(pieces))]
			if r.Intn(4) > 0 {
				text += " "
			}
		}
		opAsPlain(t, text)
		batchAsPlain(t, text)
	}
}

// Texts that were right, with a byte or two changed, put in or taken out.
func TestChangedTextsByChance(t *testing.T) {
	r := rand.New(rand.NewSource(45))
	bytesOf := "0123456789 ;|-+\t\n\x00getpudrochkasn,G\xff\xa0"
	right, none := 0, 0
	for range 60000 {
		text := plainBatchText(batchByChance(r))
		for range 1 + r.Intn(2) {
			at, by := r.Intn(len(text)), string(bytesOf[r.Intn(len(bytesOf))])
			text = []string{text[:at] + by + text[at+1:], text[:at] + by + text[at:], text[:at] + text[at+1:] + " "}[r.Intn(3)]
		}
		batchAsPlain(t, text)
		opAsPlain(t, text)
		if _, ok := plainReadBatch(text); ok {
			right++
		} else {
			none++
		}
	}
	if right < 1000 || none < 1000 {
		t.Error("drawn:", right, none)
	}
}

func sameBatches(t *testing.T, name string, a, b []impl.Txn, want bool) {
	t.Helper()
	if impl.SameBatch(a, b) != want || impl.SameBatch(b, a) != want {
		t.Errorf("SameBatch, %s: not %v", name, want)
	}
}

func TestSameBatches(t *testing.T) {
	for name, list := range rightBatches() {
		sameBatches(t, name, list, list, true)
		sameBatches(t, name, list, keptBatch(list), true)
		sameBatches(t, name, list, roomyBatch(list), true)
		back, _ := impl.ReadBatch(plainBatchText(list))
		sameBatches(t, name, list, back, true)
	}
}

// Only right ones are the same, however alike they are.
func TestBadBatchesAreNotTheSame(t *testing.T) {
	for name, list := range badBatches() {
		sameBatches(t, name, list, list, false)
		sameBatches(t, name, list, keptBatch(list), false)
		sameBatches(t, name, list, someBatch(), false)
		sameBatches(t, name, list, someShortBatch(), false)
	}
	sameBatches(t, "nil and none", nil, []impl.Txn{}, false)
	sameBatches(t, "no operations and nil", []impl.Txn{{}}, []impl.Txn{{Ops: []impl.Op{}}}, false)
}

func TestBatchesThatAreUnlikeInOneThing(t *testing.T) {
	for i := range 2 {
		for k := range 4 {
			was := someBatch()[i].Ops[k]
			for _, o := range append(rightOps(), badOps()...) {
				x := someBatch()
				x[i].Ops[k] = o
				sameBatches(t, fmt.Sprintf("%v for %v", o, was), someBatch(), x, o == was)
			}
			x := someBatch()
			x[i].Ops[k].Key = was.Key%9999 + 1
			sameBatches(t, "another key", someBatch(), x, false)
			x = someBatch()
			x[i].Ops = slices.Delete(x[i].Ops, k, k+1)
			sameBatches(t, "an operation less", someBatch(), x, false)
			x = someBatch()
			x[i].Ops = slices.Insert(x[i].Ops, k, was)
			sameBatches(t, "an operation more", someBatch(), x, false)
			x = someBatch()
			other := (k + 1) % 4
			x[i].Ops[k], x[i].Ops[other] = x[i].Ops[other], x[i].Ops[k]
			sameBatches(t, "the operations' order", someBatch(), x, false)
		}
	}
	// Alike in number, and in what their text would be without cuts.
	for _, texts := range [][]string{
		{"put 1 5", "put 1 6"}, {"put 1 5", "put 2 5"}, {"put 1 5", "add 1 5"}, {"put 1 5", "check 1 5"}, {"get 1", "drop 1"}, {"put 1 1", "scan 1 1"}, {"put 1 0", "get 1"},
		{"get 1; get 2", "get 2; get 1"}, {"get 1 | get 2", "get 2 | get 1"}, {"get 1 | get 2", "get 1; get 2"}, {"get 1; get 2 | get 3", "get 1 | get 2; get 3"},
		{"get 1", "get 1; get 1"}, {"get 1", "get 1 | get 1"}, {"get 1; get 1", "get 1 | get 1"}, {"get 1; get 2; get 3; get 4", "get 1; get 2; get 3"},
	} {
		a, code := impl.ReadBatch(texts[0])
		b, other := impl.ReadBatch(texts[1])
		if code != impl.OK || other != impl.OK {
			t.Error("ReadBatch", texts, code, other)
		}
		sameBatches(t, fmt.Sprint(texts), a, b, false)
		sameBatches(t, texts[0], a, a, true)
		sameBatches(t, texts[1], b, b, true)
	}
}

func TestBatchesOfOtherNumbers(t *testing.T) {
	sameBatches(t, "a transaction less", someBatch(), someBatch()[:1], false)
	sameBatches(t, "the other transaction", someBatch(), someBatch()[1:], false)
	sameBatches(t, "the transactions' order", someBatch(), []impl.Txn{someBatch()[1], someBatch()[0]}, false)
	sameBatches(t, "a transaction twice", someBatch(), []impl.Txn{someBatch()[0], someBatch()[0]}, false)
	sameBatches(t, "a transaction more", someBatch(), append(someBatch(), someBatch()[0]), false)
	sameBatches(t, "nil", someBatch(), nil, false)
	sameBatches(t, "an empty transaction", someBatch()[:1], []impl.Txn{someBatch()[0], {}}, false)
}

func TestSameBatchesByChance(t *testing.T) {
	r := rand.New(rand.NewSource(46))
	few := []impl.Op{{Kind: 1, Key: 1}, {Kind: 3, Key: 1}}
	draw := func() []impl.Txn {
		list := make([]impl.Txn, 1+r.Intn(2))
		for i := range list {
			for range 1 + r.Intn(2) {
				list[i].Ops = append(list[i].Ops, few[r.Intn(2)])
			}
		}
		return list
	}
	same := 0
	for range 5000 {
		a, b := draw(), draw()
		want := plainBatchText(a) == plainBatchText(b)
		sameBatches(t, fmt.Sprint(a, b), a, b, want)
		if want {
			same++
		}
	}
	if same < 100 {
		t.Error("same:", same)
	}
}

// roomyBatch has room behind the ends of its lists, with what is none of its
// own there.
func roomyBatch(list []impl.Txn) []impl.Txn {
	behind := []impl.Op{{Kind: 2, Key: 3, Value: 4}, {Kind: 99, Key: 99, Value: 99}}
	out := append(slices.Clone(list), impl.Txn{Ops: slices.Clone(behind)}, impl.Txn{})[:len(list)]
	for i, txn := range list {
		out[i].Ops = append(slices.Clone(txn.Ops), behind...)[:len(txn.Ops)]
	}
	return out
}

// oneListOfOps is list with all its operations in one list, of which each
// transaction has a piece, with the next one's in its room.
func oneListOfOps(list []impl.Txn) []impl.Txn {
	var all []impl.Op
	for _, txn := range list {
		all = append(all, txn.Ops...)
	}
	out := make([]impl.Txn, len(list))
	for i, txn := range list {
		out[i].Ops, all = all[:len(txn.Ops)], all[len(txn.Ops):]
	}
	return out
}

// brimOfBatch is the batch with all that is behind the ends of its lists.
func brimOfBatch(list []impl.Txn) []impl.Txn {
	out := slices.Clone(list[:cap(list)])
	for i := range out {
		out[i].Ops = out[i].Ops[:cap(out[i].Ops)]
	}
	return out
}

func spoilOps(list []impl.Op) {
	list = list[:cap(list)]
	for i := range list {
		list[i] = impl.Op{Kind: 99, Key: 99, Value: 99}
	}
}

func TestNoCallChangesABatch(t *testing.T) {
	r := rand.New(rand.NewSource(47))
	lists := [][]impl.Txn{nil, {}, {{}}, someBatch(), someShortBatch(), batchOf(r, 3, 1), batchOf(r, 2, 5), {{Ops: []impl.Op{{}}}}}
	for range 30 {
		lists = append(lists, batchByChance(r))
	}
	for i, was := range lists {
		for _, list := range [][]impl.Txn{roomyBatch(was), oneListOfOps(was)} {
			kept := keptBatch(brimOfBatch(list))
			impl.BatchOK(list)
			impl.BatchText(list)
			impl.SameBatch(list, list)
			impl.SameBatch(list, keptBatch(list))
			impl.SameBatch(someBatch(), list)
			if !alikeBatches(brimOfBatch(list), kept) {
				t.Errorf("changed batch %d: %v, not %v", i, brimOfBatch(list), kept)
			}
		}
	}
	text := "put 7 50;  get 7 |scan 1 4 "
	kept := strings.Clone(text)
	impl.ReadBatch(text)
	impl.ReadOp(text)
	if text != kept {
		t.Error("changed a text")
	}
}

// Transactions whose lists share memory are right as any other.
func TestBatchesOfOneList(t *testing.T) {
	r := rand.New(rand.NewSource(48))
	for range 300 {
		list := batchByChance(r)
		one := oneListOfOps(list)
		if !impl.BatchOK(one) {
			t.Error("BatchOK", one)
		}
		batchTextIs(t, one, plainBatchText(list))
		sameBatches(t, "one list", list, one, true)
	}
	ops := someBatch()[0].Ops
	twice := []impl.Txn{{Ops: ops}, {Ops: ops}}
	sameBatches(t, "one transaction twice", twice, keptBatch(twice), true)
	batchTextIs(t, twice, plainBatchText(twice))
}

func TestNoListsOfABatchShareMemory(t *testing.T) {
	r := rand.New(rand.NewSource(49))
	for range 500 {
		want := batchByChance(r)
		text := plainBatchText(want)
		for i := range want {
			x, _ := impl.ReadBatch(text)
			y, _ := impl.ReadBatch(text)
			spoilOps(x[i].Ops)
			x[i].Ops = append(x[i].Ops[:0], slices.Repeat([]impl.Op{{Kind: 98}}, 9)...)
			if x[i] = want[i]; !alikeBatches(x, want) {
				t.Errorf("ReadBatch %q: transaction %d is shared: %v", text, i, x)
			}
			if !alikeBatches(y, want) {
				t.Errorf("ReadBatch %q: two answers share memory: %v", text, y)
			}
		}
		x, _ := impl.ReadBatch(text)
		for i := range x {
			// What is put behind one transaction comes into no other.
			x[i].Ops = append(x[i].Ops, impl.Op{Kind: 97})
			spoilOps(x[i].Ops[len(want[i].Ops):])
			x[i].Ops = x[i].Ops[:len(want[i].Ops)]
			if !alikeBatches(x, want) {
				t.Errorf("ReadBatch %q: shared behind the end of %d: %v", text, i, x)
			}
		}
		brim := x[:cap(x)]
		for i := range brim {
			brim[i] = impl.Txn{}
		}
		batchReadsAs(t, text, want)
	}
}
