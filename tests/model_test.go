package tests

import (
	"fmt"
	"math"
	"math/rand"
	"regexp"
	"slices"
	"strconv"
	"strings"
	"testing"

	"loop.example/g00548/impl"
)

// plainWords are the words of the codes, in their order.
var plainWords = strings.Fields("ok bad long form range none many full size tag tampered torn stash tape check pending down up spent key")

// A result's text by hand, but for how many values there are.
var plainResultForm = regexp.MustCompile(`^ *(?:(ok)((?: +(?:0|[1-9][0-9]{0,5}))*)|(` + strings.Join(plainWords[1:], "|") + `)) *$`)

func wrongMapNumbers() []int {
	return []int{math.MinInt, math.MinInt + 1, -4294967296, -4294967295, -10000, -9999, -2, -1, 4294967296, 4294967297, math.MaxInt - 1, math.MaxInt}
}

func plainMapOK(m []impl.Entry) bool {
	for i, entry := range m {
		if entry.Key < 1 || entry.Key > 9999 || entry.Value < 0 || entry.Value > 999999 {
			return false
		}
		for _, ahead := range m[:i] {
			if ahead.Key >= entry.Key {
				return false
			}
		}
	}
	return len(m) <= 11
}

// plainDo is an operation on the list itself, without a map.
func plainDo(m []impl.Entry, o impl.Op) ([]impl.Entry, []int, int) {
	at := 0
	for at < len(m) && m[at].Key < o.Key {
		at++
	}
	there := at < len(m) && m[at].Key == o.Key
	now := impl.Entry{Key: o.Key, Value: o.Value}
	switch plainKind(o) {
	case "get":
		if there {
			return m, []int{1, m[at].Value}, 0
		}
		return m, []int{0, 0}, 0
	case "check":
		if there && m[at].Value == o.Value {
			return m, nil, 0
		}
		return m, nil, 14
	case "drop":
		if there {
			return slices.Concat(m[:at], m[at+1:]), []int{1}, 0
		}
		return m, []int{0}, 0
	case "scan":
		var values []int
		for i := range o.Value {
			if at+i < len(m) {
				values = append(values, m[at+i].Key, m[at+i].Value)
			} else {
				values = append(values, 0, 0)
			}
		}
		return m, values, 0
	}
	if !there && len(m) == 11 {
		return m, nil, 7
	}
	behind := m[at:]
	if there {
		behind = m[at+1:]
	}
	if plainKind(o) == "put" {
		return slices.Concat(m[:at], []impl.Entry{now}, behind), nil, 0
	}
	if there {
		now.Value += m[at].Value
	}
	if now.Value > 999999 {
		return m, nil, 4
	}
	return slices.Concat(m[:at], []impl.Entry{now}, behind), []int{now.Value}, 0
}

func plainKind(o impl.Op) string {
	return opKinds[o.Kind-1].word
}

func plainTxn(m []impl.Entry, txn impl.Txn) ([]impl.Entry, impl.Result) {
	now, out := m, impl.Result{}
	for _, o := range txn.Ops {
		next, values, code := plainDo(now, o)
		if code != 0 {
			return m, impl.Result{Code: code}
		}
		now, out.Values = next, append(out.Values, values...)
	}
	return now, out
}

func plainBatch(m []impl.Entry, list []impl.Txn) ([]impl.Entry, []impl.Result) {
	var results []impl.Result
	for _, txn := range list {
		var r impl.Result
		m, r = plainTxn(m, txn)
		results = append(results, r)
	}
	return m, results
}

func plainResultText(r impl.Result) string {
	text := plainWords[r.Code]
	for _, value := range r.Values {
		text += fmt.Sprint(" ", value)
	}
	return text
}

func plainReadResult(text string) (impl.Result, bool) {
	found := plainResultForm.FindStringSubmatch(text)
	if found == nil {
		return impl.Result{}, false
	}
	if found[1] == "" {
		return impl.Result{Code: slices.Index(plainWords, found[3])}, true
	}
	var r impl.Result
	for _, word := range strings.Fields(found[2]) {
		value, _ := strconv.Atoi(word)
		r.Values = append(r.Values, value)
	}
	return r, len(r.Values) <= 32
}

// opNamed and batchNamed are what a text of the tests says.
func opNamed(text string) impl.Op {
	o, right := plainReadOp(text)
	if !right {
		panic(text)
	}
	return o
}

func batchNamed(text string) []impl.Txn {
	list, right := plainReadBatch(text)
	if !right {
		panic(text)
	}
	return list
}

// mapNamed reads keys and values, such as "3 7, 9 0".
func mapNamed(text string) []impl.Entry {
	var m []impl.Entry
	for _, pair := range strings.Split(text, ", ") {
		if text == "" {
			break
		}
		var entry impl.Entry
		if n, err := fmt.Sscan(pair, &entry.Key, &entry.Value); n != 2 || err != nil {
			panic(text)
		}
		m = append(m, entry)
	}
	return m
}

func someMap() []impl.Entry {
	return mapNamed("3 7, 5 0, 6 999999, 40 12, 9998 1")
}

// fullMap has keys 10, 20 to 110.
func fullMap() []impl.Entry {
	var m []impl.Entry
	for i := range 11 {
		m = append(m, impl.Entry{Key: 10 * (i + 1), Value: []int{0, 1, 999999, 999998, 50}[i%5]})
	}
	return m
}

// endsMap is full, too, with the lowest and the highest keys.
func endsMap() []impl.Entry {
	return mapNamed("1 5, 2 0, 3 999999, 4 1, 5 2, 5000 3, 9995 999998, 9996 6, 9997 7, 9998 8, 9999 9")
}

func rightMaps() map[string][]impl.Entry {
	right := map[string][]impl.Entry{
		"nil": nil, "none": {}, "some": someMap(), "full": fullMap(), "the ends": endsMap(), "ten": fullMap()[:10],
		"ten behind": fullMap()[1:], "the ends but the lowest": endsMap()[1:], "the ends but the highest": endsMap()[:10],
	}
	for _, key := range edgeKeys {
		for _, value := range edgeCells {
			right[fmt.Sprintf("%d %d alone", key, value)] = []impl.Entry{{Key: key, Value: value}}
		}
	}
	r := rand.New(rand.NewSource(50))
	for n := range 12 {
		right[fmt.Sprintf("%d entries", n)] = mapByChance(r, n, 9999)
		right[fmt.Sprintf("%d entries near each other", n)] = mapByChance(r, n, 12)
	}
	return right
}

// mapByChance has n keys up to most.
func mapByChance(r *rand.Rand, n, most int) []impl.Entry {
	keys := r.Perm(most)[:n]
	slices.Sort(keys)
	var m []impl.Entry
	for _, key := range keys {
		value := r.Intn(1000000)
		if r.Intn(2) == 0 {
			value = edgeCells[r.Intn(len(edgeCells))]
		}
		m = append(m, impl.Entry{Key: key + 1, Value: value})
	}
	return m
}

// badMaps are all that is not right, each in one thing alone.
func badMaps() map[string][]impl.Entry {
	bad := map[string][]impl.Entry{}
	for name, m := range map[string][]impl.Entry{"of one": {{Key: 7, Value: 7}}, "some": someMap(), "full": fullMap(), "the ends": endsMap()} {
		for i := range m {
			for _, n := range append(wrongMapNumbers(), 0, 10000, 10001, 1000000) {
				x := slices.Clone(m)
				x[i].Key = n
				bad[fmt.Sprintf("%s, key %d in place %d", name, n, i)] = x
			}
			for _, n := range append(wrongMapNumbers(), 1000000, 1000001) {
				x := slices.Clone(m)
				x[i].Value = n
				bad[fmt.Sprintf("%s, value %d in place %d", name, n, i)] = x
			}
			if i == 0 {
				continue
			}
			x := slices.Clone(m)
			x[i].Key = x[i-1].Key
			bad[fmt.Sprintf("%s, alike in place %d", name, i)] = x
			x = slices.Clone(m)
			x[i-1], x[i] = x[i], x[i-1]
			bad[fmt.Sprintf("%s, falling to place %d", name, i)] = x
			x = slices.Clone(m)
			x[i] = x[0]
			bad[fmt.Sprintf("%s, the first in place %d", name, i)] = x
		}
	}
	r := rand.New(rand.NewSource(51))
	for _, n := range []int{12, 13, 22, 100, impl.MaxList} {
		bad[fmt.Sprintf("%d entries", n)] = mapByChance(r, n, 9999)
	}
	bad["twelve entries next to each other"] = mapByChance(r, 12, 12)
	bad["twelve entries alike"] = slices.Repeat([]impl.Entry{{Key: 1, Value: 1}}, 12)
	bad["twelve of nothing"] = make([]impl.Entry, 12)
	bad["one of nothing"] = make([]impl.Entry, 1)
	return bad
}

func alikeResult(a, b impl.Result) bool {
	return a.Code == b.Code && slices.Equal(a.Values, b.Values)
}

func isZeroResult(r impl.Result) bool {
	return alikeResult(r, impl.Result{})
}

func doIs(t *testing.T, m []impl.Entry, o impl.Op, wantMap []impl.Entry, wantValues []int, want int) {
	t.Helper()
	x, values, code := impl.MapDo(m, o)
	if !slices.Equal(x, wantMap) || !slices.Equal(values, wantValues) || code != want {
		t.Errorf("MapDo %v %v: %v %v %d, not %v %v %d", m, o, x, values, code, wantMap, wantValues, want)
	}
}

func doAsPlain(t *testing.T, m []impl.Entry, o impl.Op) {
	t.Helper()
	x, values, code := plainDo(m, o)
	doIs(t, m, o, x, values, code)
}

func noDo(t *testing.T, name string, m []impl.Entry, o impl.Op, want int) {
	t.Helper()
	if x, values, code := impl.MapDo(m, o); len(x) != 0 || len(values) != 0 || code != want {
		t.Errorf("MapDo, %s: %v %v %d, not %d", name, x, values, code, want)
	}
}

func txnIs(t *testing.T, m []impl.Entry, txn impl.Txn, wantMap []impl.Entry, want impl.Result) {
	t.Helper()
	x, r, code := impl.MapTxn(m, txn)
	if !slices.Equal(x, wantMap) || !alikeResult(r, want) || code != impl.OK {
		t.Errorf("MapTxn %v %v: %v %v %d, not %v %v", m, txn, x, r, code, wantMap, want)
	}
}

func txnAsPlain(t *testing.T, m []impl.Entry, txn impl.Txn) {
	t.Helper()
	x, r := plainTxn(m, txn)
	txnIs(t, m, txn, x, r)
}

func noTxn(t *testing.T, name string, m []impl.Entry, txn impl.Txn, want int) {
	t.Helper()
	if x, r, code := impl.MapTxn(m, txn); len(x) != 0 || !isZeroResult(r) || code != want {
		t.Errorf("MapTxn, %s: %v %v %d, not %d", name, x, r, code, want)
	}
}

func mapBatchIs(t *testing.T, m []impl.Entry, list []impl.Txn, wantMap []impl.Entry, want []impl.Result) {
	t.Helper()
	x, results, code := impl.MapBatch(m, list)
	if !slices.Equal(x, wantMap) || !slices.EqualFunc(results, want, alikeResult) || code != impl.OK {
		t.Errorf("MapBatch %v %v: %v %v %d, not %v %v", m, list, x, results, code, wantMap, want)
	}
}

func mapBatchAsPlain(t *testing.T, m []impl.Entry, list []impl.Txn) {
	t.Helper()
	x, results := plainBatch(m, list)
	mapBatchIs(t, m, list, x, results)
}

func noMapBatch(t *testing.T, name string, m []impl.Entry, list []impl.Txn, want int) {
	t.Helper()
	if x, results, code := impl.MapBatch(m, list); len(x) != 0 || len(results) != 0 || code != want {
		t.Errorf("MapBatch, %s: %v %v %d, not %d", name, x, results, code, want)
	}
}

func getIs(t *testing.T, m []impl.Entry, key, want, wantCode int) {
	t.Helper()
	if value, code := impl.MapGet(m, key); value != want || code != wantCode {
		t.Errorf("MapGet %v %d: %d %d, not %d %d", m, key, value, code, want, wantCode)
	}
}

func resultTextIs(t *testing.T, r impl.Result, want string) {
	t.Helper()
	if text, code := impl.ResultText(r); text != want || code != impl.OK {
		t.Errorf("ResultText %v: %q %d, not %q", r, text, code, want)
	}
}

func noResultText(t *testing.T, r impl.Result) {
	t.Helper()
	if text, code := impl.ResultText(r); text != "" || code != impl.ErrBad {
		t.Errorf("ResultText %v: %q %d", r, text, code)
	}
}

func resultReadsAs(t *testing.T, text string, want impl.Result) {
	t.Helper()
	if r, code := impl.ReadResult(text); !alikeResult(r, want) || code != impl.OK {
		t.Errorf("ReadResult %.80q: %v %d, not %v", text, r, code, want)
	}
}

func noResult(t *testing.T, text string, want int) {
	t.Helper()
	if r, code := impl.ReadResult(text); !isZeroResult(r) || code != want {
		t.Errorf("ReadResult %.80q of %d bytes: %v %d, not %d", text, len(text), r, code, want)
	}
}

func resultAsPlain(t *testing.T, text string) {
	t.Helper()
	if r, right := plainReadResult(text); right {
		resultReadsAs(t, text, r)
	} else {
		noResult(t, text, impl.ErrForm)
	}
}

func TestBoundsOfMaps(t *testing.T) {
	if impl.MaxKeys != 11 {
		t.Error(impl.MaxKeys)
	}
}

func TestRightMaps(t *testing.T) {
	for name, m := range rightMaps() {
		if !impl.MapOK(m) || !impl.MapOK(roomyMap(m)) {
			t.Error("MapOK", name)
		}
	}
}

func TestBadMaps(t *testing.T) {
	for name, m := range badMaps() {
		if impl.MapOK(m) {
			t.Error("MapOK", name)
		}
		for _, key := range []int{math.MinInt, -1, 0, 1, 7, 10, 9999, 10000, math.MaxInt} {
			getIs(t, m, key, 0, impl.ErrBad)
		}
		for _, o := range []string{"get 7", "put 7 1", "drop 7", "check 7 7", "add 7 1", "scan 1 4"} {
			noDo(t, name, m, opNamed(o), impl.ErrBad)
			noTxn(t, name, m, batchNamed(o)[0], impl.ErrBad)
			noMapBatch(t, name, m, batchNamed(o), impl.ErrBad)
		}
		noDo(t, name, m, impl.Op{}, impl.ErrBad)
		noTxn(t, name, m, impl.Txn{}, impl.ErrBad)
		noMapBatch(t, name, m, nil, impl.ErrBad)
	}
}

// Each pair of numbers at and around their bounds, alone and behind another.
func TestEntriesAroundTheirBounds(t *testing.T) {
	numbers := append(wrongMapNumbers(), 0, 1, 2, 3, 9998, 9999, 10000, 999998, 999999, 1000000)
	right := 0
	for _, key := range numbers {
		for _, value := range numbers {
			for _, m := range [][]impl.Entry{{{Key: key, Value: value}}, {{Key: 2, Value: 5}, {Key: key, Value: value}}, {{Key: key, Value: value}, {Key: 9998, Value: 5}}} {
				if impl.MapOK(m) != plainMapOK(m) {
					t.Errorf("MapOK %v: not %v", m, plainMapOK(m))
				}
				if plainMapOK(m) {
					right++
				}
			}
		}
	}
	// Five keys alone, three behind 2, three ahead of 9998; nine values.
	if right != (5+3+3)*9 {
		t.Error(right, "are right")
	}
}

// That a map is long is told ahead of what else is not right; one of MaxList
// entries is not long, but bad.
func TestLongMaps(t *testing.T) {
	r := rand.New(rand.NewSource(52))
	for _, n := range []int{impl.MaxList - 1, impl.MaxList, impl.MaxList + 1, impl.MaxList + 2, 9999} {
		want := map[bool]int{true: impl.ErrLong, false: impl.ErrBad}[n > impl.MaxList]
		for name, m := range map[string][]impl.Entry{"rising": mapByChance(r, n, 9999), "of nothing": make([]impl.Entry, n), "alike": slices.Repeat([]impl.Entry{{Key: 1}}, n)} {
			name = fmt.Sprint(name, " ", n)
			if impl.MapOK(m) {
				t.Error("MapOK", name)
			}
			for _, key := range []int{math.MinInt, 0, 1, 5000, math.MaxInt} {
				getIs(t, m, key, 0, want)
			}
			for _, o := range []impl.Op{{}, {Kind: 1, Key: 1}, {Kind: 2, Key: 5, Value: -1}, {Kind: 6, Key: 1, Value: 4}} {
				noDo(t, name, m, o, want)
				noTxn(t, name, m, impl.Txn{Ops: []impl.Op{o}}, want)
				noMapBatch(t, name, m, []impl.Txn{{Ops: []impl.Op{o}}}, want)
			}
			noTxn(t, name, m, impl.Txn{}, want)
			noTxn(t, name, m, impl.Txn{Ops: make([]impl.Op, impl.MaxList+1)}, want)
			noMapBatch(t, name, m, nil, want)
			noMapBatch(t, name, m, make([]impl.Txn, impl.MaxList), want)
			noMapBatch(t, name, m, make([]impl.Txn, impl.MaxList+1), impl.ErrLong)
		}
	}
}

func TestGetsOfMaps(t *testing.T) {
	for _, m := range rightMaps() {
		for key := range 130 {
			getAsPlain(t, m, key)
		}
		for _, entry := range m {
			getIs(t, m, entry.Key, entry.Value, impl.OK)
			getAsPlain(t, m, entry.Key-1)
			getAsPlain(t, m, entry.Key+1)
			getIs(t, m, -entry.Key, 0, impl.ErrNone)
			getIs(t, m, entry.Key+4294967296, 0, impl.ErrNone)
		}
		for _, key := range append(wrongMapNumbers(), 0, 10000, 10001, 999999, 1000000) {
			getIs(t, m, key, 0, impl.ErrNone)
		}
	}
	getIs(t, someMap(), 3, 7, impl.OK)
	getIs(t, someMap(), 5, 0, impl.OK)
	getIs(t, someMap(), 9998, 1, impl.OK)
	getIs(t, someMap(), 4, 0, impl.ErrNone)
	getIs(t, nil, 1, 0, impl.ErrNone)
}

func getAsPlain(t *testing.T, m []impl.Entry, key int) {
	t.Helper()
	at := slices.IndexFunc(m, func(e impl.Entry) bool { return e.Key == key })
	if at < 0 {
		getIs(t, m, key, 0, impl.ErrNone)
	} else {
		getIs(t, m, key, m[at].Value, impl.OK)
	}
}

func TestKnownOps(t *testing.T) {
	// What is there, the operation, what it tells, what there is then.
	for _, c := range [][4]string{
		{"", "get 3", "ok 0 0", ""},
		{"", "put 3 7", "ok", "3 7"},
		{"", "put 9999 999999", "ok", "9999 999999"},
		{"", "put 1 0", "ok", "1 0"},
		{"", "drop 3", "ok 0", ""},
		{"", "check 3 0", "check", ""},
		{"", "check 3 1", "check", ""},
		{"", "add 3 0", "ok 0", "3 0"},
		{"", "add 3 999999", "ok 999999", "3 999999"},
		{"", "scan 1 1", "ok 0 0", ""},
		{"", "scan 9999 4", "ok 0 0 0 0 0 0 0 0", ""},
		{"3 7, 5 0, 9 1", "get 3", "ok 1 7", "3 7, 5 0, 9 1"},
		{"3 7, 5 0, 9 1", "get 5", "ok 1 0", "3 7, 5 0, 9 1"},
		{"3 7, 5 0, 9 1", "get 9", "ok 1 1", "3 7, 5 0, 9 1"},
		{"3 7, 5 0, 9 1", "get 2", "ok 0 0", "3 7, 5 0, 9 1"},
		{"3 7, 5 0, 9 1", "get 4", "ok 0 0", "3 7, 5 0, 9 1"},
		{"3 7, 5 0, 9 1", "get 10", "ok 0 0", "3 7, 5 0, 9 1"},
		{"3 7, 5 0, 9 1", "put 3 8", "ok", "3 8, 5 0, 9 1"},
		{"3 7, 5 0, 9 1", "put 5 5", "ok", "3 7, 5 5, 9 1"},
		{"3 7, 5 0, 9 1", "put 9 0", "ok", "3 7, 5 0, 9 0"},
		{"3 7, 5 0, 9 1", "put 1 8", "ok", "1 8, 3 7, 5 0, 9 1"},
		{"3 7, 5 0, 9 1", "put 4 8", "ok", "3 7, 4 8, 5 0, 9 1"},
		{"3 7, 5 0, 9 1", "put 10 8", "ok", "3 7, 5 0, 9 1, 10 8"},
		{"3 7, 5 0, 9 1", "drop 3", "ok 1", "5 0, 9 1"},
		{"3 7, 5 0, 9 1", "drop 5", "ok 1", "3 7, 9 1"},
		{"3 7, 5 0, 9 1", "drop 9", "ok 1", "3 7, 5 0"},
		{"3 7, 5 0, 9 1", "drop 4", "ok 0", "3 7, 5 0, 9 1"},
		{"3 7", "drop 3", "ok 1", ""},
		{"3 7, 5 0, 9 1", "check 3 7", "ok", "3 7, 5 0, 9 1"},
		{"3 7, 5 0, 9 1", "check 5 0", "ok", "3 7, 5 0, 9 1"},
		{"3 7, 5 0, 9 1", "check 3 0", "check", "3 7, 5 0, 9 1"},
		{"3 7, 5 0, 9 1", "check 3 6", "check", "3 7, 5 0, 9 1"},
		{"3 7, 5 0, 9 1", "check 4 0", "check", "3 7, 5 0, 9 1"},
		{"3 7, 5 0, 9 1", "check 4 7", "check", "3 7, 5 0, 9 1"},
		{"3 7, 5 0, 9 1", "add 3 5", "ok 12", "3 12, 5 0, 9 1"},
		{"3 7, 5 0, 9 1", "add 3 0", "ok 7", "3 7, 5 0, 9 1"},
		{"3 7, 5 0, 9 1", "add 5 999999", "ok 999999", "3 7, 5 999999, 9 1"},
		{"3 7, 5 0, 9 1", "add 9 999998", "ok 999999", "3 7, 5 0, 9 999999"},
		{"3 7, 5 0, 9 1", "add 9 999999", "range", "3 7, 5 0, 9 1"},
		{"3 7, 5 0, 9 1", "add 6 4", "ok 4", "3 7, 5 0, 6 4, 9 1"},
		{"3 7, 5 0, 9 1", "scan 1 1", "ok 3 7", "3 7, 5 0, 9 1"},
		{"3 7, 5 0, 9 1", "scan 1 2", "ok 3 7 5 0", "3 7, 5 0, 9 1"},
		{"3 7, 5 0, 9 1", "scan 1 3", "ok 3 7 5 0 9 1", "3 7, 5 0, 9 1"},
		{"3 7, 5 0, 9 1", "scan 1 4", "ok 3 7 5 0 9 1 0 0", "3 7, 5 0, 9 1"},
		{"3 7, 5 0, 9 1", "scan 3 2", "ok 3 7 5 0", "3 7, 5 0, 9 1"},
		{"3 7, 5 0, 9 1", "scan 4 2", "ok 5 0 9 1", "3 7, 5 0, 9 1"},
		{"3 7, 5 0, 9 1", "scan 5 1", "ok 5 0", "3 7, 5 0, 9 1"},
		{"3 7, 5 0, 9 1", "scan 9 4", "ok 9 1 0 0 0 0 0 0", "3 7, 5 0, 9 1"},
		{"3 7, 5 0, 9 1", "scan 10 1", "ok 0 0", "3 7, 5 0, 9 1"},
		{"3 7, 5 0, 9 1", "scan 9999 2", "ok 0 0 0 0", "3 7, 5 0, 9 1"},
	} {
		want, _ := plainReadResult(c[2])
		doIs(t, mapNamed(c[0]), opNamed(c[1]), mapNamed(c[3]), want.Values, want.Code)
		txnIs(t, mapNamed(c[0]), batchNamed(c[1])[0], mapNamed(c[3]), want)
		mapBatchIs(t, mapNamed(c[0]), batchNamed(c[1]), mapNamed(c[3]), []impl.Result{want})
	}
}

// nearKeys are all keys of a map, and those beside them, and the ends.
func nearKeys(m []impl.Entry) []int {
	keys := []int{1, 2, 9998, 9999}
	for _, entry := range m {
		keys = append(keys, max(1, entry.Key-1), entry.Key, min(9999, entry.Key+1))
	}
	return keys
}

func TestOpsOnEachMap(t *testing.T) {
	for _, m := range rightMaps() {
		for _, key := range nearKeys(m) {
			for _, k := range opKinds {
				values := k.edges()
				if k.most == 999999 {
					for _, entry := range m {
						values = append(values, entry.Value, max(0, entry.Value-1), 999999-entry.Value, min(999999, 1000000-entry.Value))
					}
				}
				for _, value := range values {
					doAsPlain(t, m, k.op(key, value))
					txnAsPlain(t, m, impl.Txn{Ops: []impl.Op{k.op(key, value)}})
				}
			}
		}
	}
}

func TestOpsThatAreNotRight(t *testing.T) {
	for _, m := range [][]impl.Entry{nil, someMap(), fullMap()} {
		for _, o := range badOps() {
			noDo(t, fmt.Sprint(o), m, o, impl.ErrBad)
		}
		noDo(t, "nothing", m, impl.Op{}, impl.ErrBad)
	}
}

// Of a sum just the highest value is one; a new key has any value.
func TestAddsUpToTheHighestValue(t *testing.T) {
	for _, was := range []int{0, 1, 2, 5, 499999, 500000, 999997, 999998, 999999} {
		m := []impl.Entry{{Key: 4, Value: 3}, {Key: 7, Value: was}, {Key: 8, Value: 999999}}
		for _, more := range []int{0, 1, 999998 - was, 999999 - was, 1000000 - was, 1000001 - was, 999998, 999999} {
			if more < 0 || more > 999999 {
				continue
			}
			o := impl.Op{Kind: impl.OpAdd, Key: 7, Value: more}
			if was+more > 999999 {
				doIs(t, m, o, m, nil, impl.ErrRange)
				continue
			}
			doIs(t, m, o, []impl.Entry{m[0], {Key: 7, Value: was + more}, m[2]}, []int{was + more}, impl.OK)
		}
		o := impl.Op{Kind: impl.OpAdd, Key: 5, Value: was}
		doIs(t, m, o, []impl.Entry{m[0], {Key: 5, Value: was}, m[1], m[2]}, []int{was}, impl.OK)
	}
}

// A full map takes no new key, be it at the front, between or at the end; keys
// that are there are changed as ever.
func TestFullMaps(t *testing.T) {
	for _, m := range [][]impl.Entry{fullMap(), endsMap()} {
		for _, key := range nearKeys(m) {
			at := slices.IndexFunc(m, func(e impl.Entry) bool { return e.Key == key })
			for _, value := range edgeCells {
				put, add := impl.Op{Kind: impl.OpPut, Key: key, Value: value}, impl.Op{Kind: impl.OpAdd, Key: key, Value: value}
				if at < 0 {
					doIs(t, m, put, m, nil, impl.ErrFull)
					doIs(t, m, add, m, nil, impl.ErrFull)
					less := slices.Delete(slices.Clone(m), 5, 6)
					doAsPlain(t, less, put)
					doAsPlain(t, less, add)
					continue
				}
				x := slices.Clone(m)
				x[at].Value = value
				doIs(t, m, put, x, nil, impl.OK)
				if sum := m[at].Value + value; sum > 999999 {
					doIs(t, m, add, m, nil, impl.ErrRange)
				} else {
					x[at].Value = sum
					doIs(t, m, add, x, []int{sum}, impl.OK)
				}
			}
		}
		// A key less makes room for one.
		txn := impl.Txn{Ops: []impl.Op{{Kind: impl.OpDrop, Key: m[4].Key}, {Kind: impl.OpPut, Key: 77, Value: 7}, {Kind: impl.OpGet, Key: 77}}}
		x, r, code := impl.MapTxn(m, txn)
		if code != impl.OK || r.Code != impl.OK || !slices.Equal(r.Values, []int{1, 1, 7}) || len(x) != 11 || !impl.MapOK(x) {
			t.Error("MapTxn", x, r, code)
		}
		txn.Ops = append(txn.Ops, impl.Op{Kind: impl.OpAdd, Key: 78, Value: 1})
		txnIs(t, m, txn, m, impl.Result{Code: impl.ErrFull})
	}
	// The eleventh key is put, the twelfth is not.
	var m []impl.Entry
	for key := 12; key >= 1; key-- {
		x, values, code := impl.MapDo(m, impl.Op{Kind: impl.OpPut, Key: key, Value: key})
		if len(values) != 0 || code != map[bool]int{true: impl.ErrFull}[key == 1] || len(x) != min(11, 13-key) || !impl.MapOK(x) {
			t.Error("MapDo", key, x, values, code)
		}
		m = x
	}
}

func TestScansOfEachKey(t *testing.T) {
	for _, m := range [][]impl.Entry{nil, someMap(), fullMap(), endsMap(), fullMap()[:1], fullMap()[:4]} {
		for _, key := range append(nearKeys(m), 35, 65, 105, 115, 5001) {
			for n := 1; n <= 4; n++ {
				x, values, code := impl.MapDo(m, impl.Op{Kind: impl.OpScan, Key: key, Value: n})
				if code != impl.OK || len(values) != 2*n || !slices.Equal(x, m) {
					t.Error("MapDo", key, n, values, code)
					continue
				}
				// Promise 11: none is between those that are told, nor behind
				// them if there are too few.
				below := key - 1
				for i := 0; i < len(values); i += 2 {
					at := slices.IndexFunc(m, func(e impl.Entry) bool { return e.Key > below })
					if at < 0 {
						if values[i] != 0 || values[i+1] != 0 {
							t.Error("scan", key, n, values)
						}
						continue
					}
					if (impl.Entry{Key: values[i], Value: values[i+1]}) != m[at] {
						t.Error("scan", key, n, values)
					}
					below = m[at].Key
				}
			}
		}
	}
}

func TestKnownTransactions(t *testing.T) {
	// What is there, the transactions, what they tell, what there is then.
	for _, c := range [][]string{
		{"", "put 5 1; get 5", "5 1", "ok 1 1"},
		{"", "put 5 1; check 5 2", "", "check"},
		{"", "check 5 0; put 5 1", "", "check"},
		{"", "put 5 1; put 5 2; put 5 3; check 5 1", "", "check"},
		{"", "put 5 1; put 5 2; put 5 3; check 5 3", "5 3", "ok"},
		{"5 9", "put 5 1; put 5 2; add 5 3; check 5 6", "5 9", "check"},
		{"5 9", "put 5 1; put 5 2; add 5 3; check 5 5", "5 5", "ok 5"},
		{"5 9", "drop 5; put 5 1; drop 5; check 5 1", "5 9", "check"},
		{"5 9", "drop 5; check 5 9", "5 9", "check"},
		{"5 0", "drop 5; check 5 0", "5 0", "check"},
		{"5 0", "drop 5; add 5 3; get 5; drop 5", "", "ok 1 3 1 3 1"},
		{"", "put 5 3; drop 5; check 5 3", "", "check"},
		{"", "add 5 3; add 5 999997", "", "range"},
		{"5 999999", "add 5 0; get 5; add 5 1; get 5", "5 999999", "range"},
		{"5 999999", "put 5 999998; add 5 1; add 6 999999; scan 1 2", "5 999999, 6 999999", "ok 999999 999999 5 999999 6 999999"},
		{"2 1, 4 1", "put 1 1; drop 2; put 4 2; check 3 0", "2 1, 4 1", "check"},
		{"2 1, 4 1", "put 1 1; drop 2; put 4 2; get 3", "1 1, 4 2", "ok 1 0 0"},
		{"2 1, 4 1", "drop 2; drop 4; scan 1 4; check 2 1", "2 1, 4 1", "check"},
		{"2 1", "scan 1 1; get 2; add 2 1; drop 2", "", "ok 2 1 1 1 2 1"},
		{"", "put 5 1; check 5 2 | get 5", "", "check", "ok 0 0"},
		{"", "put 5 1 | get 5; put 6 5; check 6 4", "5 1", "ok", "check"},
		{"", "put 5 1 | get 5; drop 5", "", "ok", "ok 1 1 1"},
		{"", "put 5 1; check 6 0 | put 5 2; check 6 0", "", "check", "check"},
		{"5 9", "put 5 1 | put 5 2; check 5 3", "5 1", "ok", "check"},
		{"5 9", "drop 5 | put 5 2; check 5 3", "", "ok 1", "check"},
		{"5 9", "put 5 1; check 5 2 | check 5 9; add 5 1", "5 10", "check", "ok 10"},
		{"5 9", "put 6 1; drop 5 | put 5 2; drop 6; put 7 1; check 6 1", "6 1", "ok 1", "check"},
	} {
		list, m, want := batchNamed(c[1]), mapNamed(c[0]), []impl.Result{}
		for _, text := range c[3:] {
			r, right := plainReadResult(text)
			if !right {
				t.Error(text)
			}
			want = append(want, r)
		}
		mapBatchIs(t, m, list, mapNamed(c[2]), want)
		if len(list) == 1 {
			txnIs(t, m, list[0], mapNamed(c[2]), want[0])
		}
	}
}

// changes are operations that have no code, and leave no map as it was.
func changes(m []impl.Entry) []impl.Op {
	first, last := m[0], m[len(m)-1]
	out := []impl.Op{
		{Kind: impl.OpPut, Key: first.Key, Value: 123},
		{Kind: impl.OpPut, Key: last.Key, Value: 456},
		{Kind: impl.OpDrop, Key: first.Key},
		{Kind: impl.OpDrop, Key: m[len(m)/2].Key},
		{Kind: impl.OpDrop, Key: last.Key},
	}
	if last.Value < 999999 {
		out = append(out, impl.Op{Kind: impl.OpAdd, Key: last.Key, Value: 999999 - last.Value})
	}
	if len(m) < 11 {
		out = append(out, impl.Op{Kind: impl.OpPut, Key: 777, Value: 5}, impl.Op{Kind: impl.OpAdd, Key: 778, Value: 5})
	}
	return out
}

// Promise 11. Whatever was done ahead of a code, at whatever place it comes, is
// undone; what is behind it is not done.
func TestTransactionsWithACodeAreUndone(t *testing.T) {
	met := map[[2]int]int{}
	for name, m := range map[string][]impl.Entry{"some": someMap(), "full": fullMap(), "ten": fullMap()[:10], "one": fullMap()[3:4], "the ends": endsMap()} {
		ops := changes(m)
		for n := range 4 {
			for _, ahead := range picks(ops, n) {
				now, r := plainTxn(m, impl.Txn{Ops: ahead})
				if r.Code != impl.OK {
					continue
				}
				for _, last := range []impl.Op{{Kind: impl.OpCheck, Key: 5555}, {Kind: impl.OpCheck, Key: m[0].Key, Value: 77}, {Kind: impl.OpPut, Key: 5555}, {Kind: impl.OpAdd, Key: m[len(m)-1].Key, Value: 999999}} {
					_, _, code := plainDo(now, last)
					if code == impl.OK {
						continue
					}
					met[[2]int{n, code}]++
					// What may come behind it, up to the number that there may be.
					for behind := range 4 - n {
						txn := impl.Txn{Ops: slices.Concat(ahead, []impl.Op{last}, slices.Repeat([]impl.Op{{Kind: impl.OpDrop, Key: m[0].Key}}, behind))}
						x, r, got := impl.MapTxn(m, txn)
						if !slices.Equal(x, m) || r.Code != code || len(r.Values) != 0 || got != impl.OK {
							t.Errorf("MapTxn, %s, %v: %v %v %d", name, txn, x, r, got)
						}
						x, results, got := impl.MapBatch(m, []impl.Txn{txn, {Ops: []impl.Op{{Kind: impl.OpScan, Key: 1, Value: 1}}}})
						if !slices.Equal(x, m) || len(results) != 2 || results[0].Code != code || !slices.Equal(results[1].Values, []int{m[0].Key, m[0].Value}) || got != impl.OK {
							t.Errorf("MapBatch, %s, %v: %v %v %d", name, txn, x, results, got)
						}
					}
				}
			}
		}
	}
	for n := range 4 {
		for _, code := range []int{impl.ErrCheck, impl.ErrFull, impl.ErrRange} {
			if met[[2]int{n, code}] == 0 {
				t.Error("no code", code, "behind", n)
			}
		}
	}
}

// picks are all lists of n of ops.
func picks(ops []impl.Op, n int) [][]impl.Op {
	if n == 0 {
		return [][]impl.Op{nil}
	}
	var out [][]impl.Op
	for _, ahead := range picks(ops, n-1) {
		for _, o := range ops {
			out = append(out, slices.Concat(ahead, []impl.Op{o}))
		}
	}
	return out
}

// All transactions of a few operations that meet each other.
func TestTransactionsOfFewOps(t *testing.T) {
	var ops []impl.Op
	for _, text := range []string{"put 5 1", "put 5 2", "drop 5", "add 5 999998", "check 5 1", "get 5", "put 6 0", "check 6 0", "scan 5 2"} {
		ops = append(ops, opNamed(text))
	}
	ten := mapNamed("1 1, 2 1, 3 1, 4 1, 7 1, 8 1, 9 1, 10 1, 11 1, 12 1")
	for _, m := range [][]impl.Entry{nil, mapNamed("5 1"), mapNamed("5 0, 6 0"), mapNamed("6 3, 9 9"), ten} {
		for n := 1; n <= 4; n++ {
			for _, list := range picks(ops, n) {
				txnAsPlain(t, m, impl.Txn{Ops: list})
			}
		}
		for _, list := range picks(ops, 3) {
			mapBatchAsPlain(t, m, []impl.Txn{{Ops: list[:1]}, {Ops: list[1:]}})
			mapBatchAsPlain(t, m, []impl.Txn{{Ops: list[:2]}, {Ops: list[2:]}})
		}
	}
}

func TestTransactionsThatAreNotRight(t *testing.T) {
	o := impl.Op{Kind: impl.OpDrop, Key: 10}
	for _, m := range [][]impl.Entry{nil, someMap(), fullMap()} {
		for _, n := range []int{0, 5, 6, 8, impl.MaxList, impl.MaxList + 1} {
			noTxn(t, fmt.Sprint(n, " operations"), m, impl.Txn{Ops: slices.Repeat([]impl.Op{o}, n)}, impl.ErrBad)
		}
		noTxn(t, "an empty list", m, impl.Txn{Ops: []impl.Op{}}, impl.ErrBad)
		for _, bad := range badOps() {
			for n := range 4 {
				for at := range n + 1 {
					// A code ahead of it does not hide what is not right.
					for _, other := range []impl.Op{o, {Kind: impl.OpCheck, Key: 1, Value: 1}} {
						ops := slices.Repeat([]impl.Op{other}, n+1)
						ops[at] = bad
						noTxn(t, fmt.Sprint(bad, " at ", at), m, impl.Txn{Ops: ops}, impl.ErrBad)
					}
				}
			}
		}
	}
}

func TestBatchesThatAreNotRightForAMap(t *testing.T) {
	for name, list := range badBatches() {
		noMapBatch(t, name, nil, list, impl.ErrBad)
		noMapBatch(t, name, fullMap(), list, impl.ErrBad)
		noMapBatch(t, name, someMap(), list, impl.ErrBad)
	}
}

// That a list is long is told ahead of what is not right of the other one.
func TestWhichCodeOfMapsIsFirst(t *testing.T) {
	r := rand.New(rand.NewSource(53))
	right, bad := someBatch(), []impl.Txn{{}}
	maps := map[string][]impl.Entry{"right": someMap(), "bad": make([]impl.Entry, 1), "long": make([]impl.Entry, impl.MaxList+1)}
	lists := map[string][]impl.Txn{"right": right, "bad": bad, "long": batchOf(r, impl.MaxList+1, 1), "longer": make([]impl.Txn, 100000)}
	for mapName, m := range maps {
		for listName, list := range lists {
			name := mapName + " and " + listName
			switch {
			case mapName == "long" || strings.HasPrefix(listName, "long"):
				noMapBatch(t, name, m, list, impl.ErrLong)
			case mapName == "bad" || listName == "bad":
				noMapBatch(t, name, m, list, impl.ErrBad)
			default:
				mapBatchAsPlain(t, m, list)
			}
		}
	}
	// Of an operation's own codes there is but one at a time: a new key's sum is
	// never too high.
	for _, m := range [][]impl.Entry{fullMap(), endsMap()} {
		doIs(t, m, opNamed("add 555 999999"), m, nil, impl.ErrFull)
		doIs(t, m, opNamed("put 555 999999"), m, nil, impl.ErrFull)
		doIs(t, m, impl.Op{Kind: impl.OpAdd, Key: m[2].Key, Value: 1}, m, nil, impl.ErrRange)
		noDo(t, "a value that is too high", m, impl.Op{Kind: impl.OpAdd, Key: 555, Value: 1000000}, impl.ErrBad)
		noDo(t, "a value that is too high", m, impl.Op{Kind: impl.OpAdd, Key: m[2].Key, Value: 1000000}, impl.ErrBad)
	}
	// The first code of a transaction is its code.
	codes := map[string]int{"check 555 1": impl.ErrCheck, "put 555 1": impl.ErrFull, "add 30 1": impl.ErrRange}
	for first, code := range codes {
		for second := range codes {
			list := batchNamed(first + "; " + second)
			txnIs(t, fullMap(), list[0], fullMap(), impl.Result{Code: code})
			list = batchNamed("get 10; " + first + "; " + second + " | " + second + "; " + first)
			mapBatchIs(t, fullMap(), list, fullMap(), []impl.Result{{Code: code}, {Code: codes[second]}})
		}
	}
}

// The values of all operations are one list, in the operations' order: of four
// scans as many as a result may have.
func TestValuesInTheOrderOfOps(t *testing.T) {
	m := mapNamed("1 11, 2 22, 3 33, 4 44, 5 55")
	for text, want := range map[string]string{
		"scan 1 4; scan 2 4; scan 3 4; scan 6 4": "ok 1 11 2 22 3 33 4 44 2 22 3 33 4 44 5 55 3 33 4 44 5 55 0 0 0 0 0 0 0 0 0 0",
		"scan 5 1; scan 1 1; scan 3 2":           "ok 5 55 1 11 3 33 4 44",
		"get 2; get 1; get 6; get 5":             "ok 1 22 1 11 0 0 1 55",
		"add 1 1; add 2 2; add 3 3; add 4 4":     "ok 12 24 36 48",
		"drop 1; drop 6; get 1; scan 1 1":        "ok 1 0 0 0 2 22",
		"put 1 5; check 2 22; put 3 5":           "ok",
		"put 1 5; get 1; check 2 22; add 1 1":    "ok 1 5 6",
	} {
		_, r, code := impl.MapTxn(m, batchNamed(text)[0])
		if told, other := impl.ResultText(r); told != want || code != impl.OK || other != impl.OK {
			t.Errorf("MapTxn %q: %q %d %d, not %q", text, told, code, other, want)
		}
	}
}

// nearOp draws what meets the keys of a map, and has a code now and then.
func nearOp(r *rand.Rand, m []impl.Entry) impl.Op {
	k := opKinds[r.Intn(6)]
	if k.word == "drop" && len(m) < 11 && r.Intn(3) > 0 {
		// So that maps are full now and then.
		k = opKinds[1]
	}
	key, value := 1+r.Intn(14), k.least+r.Intn(k.most-k.least+1)
	if len(m) > 0 && r.Intn(2) == 0 {
		key = m[r.Intn(len(m))].Key
	}
	at := slices.IndexFunc(m, func(e impl.Entry) bool { return e.Key == key })
	if k.word == "check" && at >= 0 && r.Intn(4) > 0 {
		value = m[at].Value
	}
	if k.word == "add" && r.Intn(3) > 0 {
		value %= 1000
	}
	return k.op(key, value)
}

func TestRunsOfOpsByChance(t *testing.T) {
	r := rand.New(rand.NewSource(54))
	codes := map[int]int{}
	for range 40 {
		var m []impl.Entry
		for range 400 {
			o := nearOp(r, m)
			doAsPlain(t, m, o)
			x, _, code := impl.MapDo(m, o)
			codes[code]++
			if !impl.MapOK(x) {
				t.Fatal("MapOK", x)
			}
			m = x
		}
	}
	for _, code := range []int{impl.OK, impl.ErrFull, impl.ErrRange, impl.ErrCheck} {
		if codes[code] < 20 {
			t.Error("drawn:", codes)
		}
	}
}

func TestRunsOfBatchesByChance(t *testing.T) {
	r := rand.New(rand.NewSource(55))
	undone, done := 0, 0
	for range 60 {
		var m []impl.Entry
		for range 200 {
			list := make([]impl.Txn, 1+r.Intn(2))
			now := m
			for i := range list {
				for range 1 + r.Intn(4) {
					o := nearOp(r, now)
					next, _, _ := plainDo(now, o)
					list[i].Ops, now = append(list[i].Ops, o), next
				}
			}
			mapBatchAsPlain(t, m, list)
			txnAsPlain(t, m, list[0])
			x, results, code := impl.MapBatch(m, list)
			if code != impl.OK || !impl.MapOK(x) {
				t.Fatal("MapBatch", x, code)
			}
			for _, result := range results {
				text, code := impl.ResultText(result)
				if code != impl.OK {
					t.Fatal("ResultText", result)
				}
				resultReadsAs(t, text, result)
				if result.Code == impl.OK {
					done++
				} else {
					undone++
				}
			}
			m = x
		}
	}
	if done < 1000 || undone < 1000 {
		t.Error("drawn:", done, undone)
	}
}

// Promise 11, without a model: a transaction is its operations one by one, and
// a batch its transactions.
func TestTransactionsAreTheirOps(t *testing.T) {
	r := rand.New(rand.NewSource(56))
	for range 4000 {
		m := mapByChance(r, r.Intn(12), 14)
		var txn impl.Txn
		for range 1 + r.Intn(4) {
			txn.Ops = append(txn.Ops, nearOp(r, m))
		}
		now, want := m, impl.Result{}
		for _, o := range txn.Ops {
			next, values, code := impl.MapDo(now, o)
			if code != impl.OK {
				now, want = m, impl.Result{Code: code}
				break
			}
			now, want.Values = next, append(want.Values, values...)
		}
		txnIs(t, m, txn, now, want)
		other := impl.Txn{Ops: []impl.Op{nearOp(r, now), nearOp(r, now)}}
		last, second, _ := impl.MapTxn(now, other)
		mapBatchIs(t, m, []impl.Txn{txn, other}, last, []impl.Result{want, second})
	}
}

func rightResults() []impl.Result {
	out := []impl.Result{{}, {Values: []int{}}, {Values: []int{0}}, {Values: []int{999999}}, {Values: []int{1, 2}}}
	for code := range plainWords {
		out = append(out, impl.Result{Code: code}, impl.Result{Code: code, Values: []int{}})
	}
	r := rand.New(rand.NewSource(57))
	for n := range 33 {
		values := make([]int, n)
		for _, value := range edgeCells {
			out = append(out, impl.Result{Values: slices.Repeat([]int{value}, n)})
		}
		for i := range values {
			values[i] = r.Intn(1000000)
		}
		out = append(out, impl.Result{Values: values})
	}
	return out
}

func badResults() []impl.Result {
	var out []impl.Result
	for _, code := range append(wrongMapNumbers(), 20, 21, 255, 256, 257, 1000) {
		out = append(out, impl.Result{Code: code}, impl.Result{Code: code, Values: []int{1}})
	}
	for code := 1; code < 20; code++ {
		for _, n := range []int{1, 2, 32, 33} {
			out = append(out, impl.Result{Code: code, Values: make([]int, n)})
		}
	}
	for _, value := range append(wrongMapNumbers(), 1000000, 1000001) {
		for _, n := range []int{1, 2, 31, 32} {
			for _, at := range []int{0, n / 2, n - 1} {
				values := make([]int, n)
				values[at] = value
				out = append(out, impl.Result{Values: values})
			}
		}
	}
	for _, n := range []int{33, 34, 64, impl.MaxList, impl.MaxList + 1, 100000} {
		out = append(out, impl.Result{Values: make([]int, n)}, impl.Result{Values: slices.Repeat([]int{7}, n)})
	}
	return out
}

func TestTextsOfResults(t *testing.T) {
	for _, r := range rightResults() {
		resultTextIs(t, r, plainResultText(r))
		resultReadsAs(t, plainResultText(r), r)
	}
	for _, r := range badResults() {
		noResultText(t, r)
	}
	for text, r := range map[string]impl.Result{
		"ok": {}, "check": {Code: impl.ErrCheck}, "full": {Code: impl.ErrFull}, "key": {Code: impl.ErrKey}, "bad": {Code: impl.ErrBad},
		"ok 0": {Values: []int{0}}, "ok 1 999999": {Values: []int{1, 999999}}, "ok 3 2 1 0": {Values: []int{3, 2, 1, 0}},
	} {
		resultTextIs(t, r, text)
		resultReadsAs(t, text, r)
	}
}

func TestBlanksOfResults(t *testing.T) {
	several := []string{" ", "  ", strings.Repeat(" ", 9), strings.Repeat(" ", 1500)}
	for _, r := range rightResults() {
		text := plainResultText(r)
		for _, blanks := range several {
			wide := text
			if len(blanks)*len(r.Values) < 60000 {
				wide = strings.ReplaceAll(text, " ", blanks)
			}
			for _, loose := range []string{wide, blanks + text, text + blanks, blanks + text + blanks, strings.Replace(text, " ", blanks, 1)} {
				resultReadsAs(t, loose, r)
				back, _ := impl.ReadResult(loose)
				resultTextIs(t, back, text)
			}
		}
		if len(r.Values) > 0 {
			noResult(t, strings.Replace(text, " ", "", 1), impl.ErrForm)
		}
	}
	noResult(t, "", impl.ErrForm)
	for _, n := range []int{1, 2, 3, 100, impl.MaxText - 1, impl.MaxText} {
		noResult(t, strings.Repeat(" ", n), impl.ErrForm)
	}
	for _, text := range []string{"o k", "ok 1 x", "ok 1 2 ok", "ok ok", "check check", "ok check", "check ok", "c heck", "1 ok", "0", "1", "0 ok", "tam pered"} {
		noResult(t, text, impl.ErrForm)
	}
}

// Only blanks are blanks.
func TestOtherBytesThanBlanksInResults(t *testing.T) {
	others := []string{"\t\t", "\r\n", "\u0085", "\u00a0", "\u1680", "\u2003", "\u2028", "\u3000", "\ufeff", "\xc2", "\xa0", "\x85"}
	for b := range 256 {
		if b != ' ' {
			others = append(others, string([]byte{byte(b)}))
		}
	}
	for _, text := range []string{"ok", "check", "ok 1", "ok 1 2", "ok 10 20 30"} {
		for _, other := range others {
			changed := []string{other, other + text, text + other, other + " " + text, text + " " + other, " " + other + text + " ", " " + text + other + " "}
			for at := range len(text) {
				if text[at] == ' ' {
					changed = append(changed, text[:at]+other+text[at+1:], text[:at]+other+text[at:], text[:at+1]+other+text[at+1:], text[:at]+" "+other+" "+text[at+1:])
				}
			}
			for _, c := range changed {
				resultAsPlain(t, c)
				if strings.Trim(other, "0123456789") != "" {
					noResult(t, c, impl.ErrForm)
				}
			}
		}
	}
}

func TestWordsThatAreNoCodesOfResults(t *testing.T) {
	words := []string{"what", "OK", "Ok", "oK", "okay", "ok1", "1ok", "no", "error", "done", "0", "1", "19", "20", "-1", "-", "\x00", "\xff", "ok\x00", "\x00ok", "get", "up down"}
	for _, word := range plainWords {
		words = append(words, strings.ToUpper(word), strings.ToUpper(word[:1])+word[1:], word+word, word+"s", word+"_", strings.Repeat(word, 5000))
		for n := 1; n < len(word); n++ {
			words = append(words, word[:n], word[n:])
		}
	}
	for _, word := range words {
		for _, behind := range []string{"", " ", " 1", " 1 2", " 0"} {
			if slices.Contains(plainWords, word) {
				resultAsPlain(t, word+behind)
				continue
			}
			noResult(t, word+behind, impl.ErrForm)
		}
	}
	// No code but that of none has values.
	for _, word := range plainWords[1:] {
		resultReadsAs(t, word, impl.Result{Code: slices.Index(plainWords, word)})
		for _, behind := range []string{" 0", " 1", " 1 2", " x", " -1", " " + word, " ok", strings.Repeat(" 0", 32), strings.Repeat(" 0", 33)} {
			noResult(t, word+behind, impl.ErrForm)
			noResult(t, " "+word+" "+behind+" ", impl.ErrForm)
		}
	}
}

func TestNumbersOfResults(t *testing.T) {
	numbers := slices.Clone(noNumbers)
	for _, value := range append(wrongMapNumbers(), 1000000, 1000001, 9999999) {
		numbers = append(numbers, fmt.Sprint(value))
	}
	for _, number := range numbers {
		for _, text := range []string{"ok " + number, "ok 1 " + number, "ok " + number + " 1", "ok 0 " + number + " 0", " ok  " + number + "  ", "ok" + strings.Repeat(" 5", 31) + " " + number, "ok " + number + strings.Repeat(" 5", 31)} {
			noResult(t, text, impl.ErrForm)
		}
	}
	for n := range 130 {
		for _, number := range []string{fmt.Sprint(n), "0" + fmt.Sprint(n), "00" + fmt.Sprint(n), fmt.Sprintf("%06d", n), fmt.Sprintf("%018d", n), fmt.Sprintf("%019d", n), fmt.Sprintf("%+d", n), fmt.Sprint(-n), "-" + fmt.Sprint(n)} {
			resultAsPlain(t, "ok "+number)
			resultAsPlain(t, "ok 7 "+number+" 8")
		}
	}
	for _, from := range []int{9990, 99990, 999990} {
		for n := from; n < from+20; n++ {
			resultAsPlain(t, fmt.Sprint("ok ", n))
			resultAsPlain(t, fmt.Sprint("ok ", n, " ", n+1))
		}
	}
	for n := 1; n <= 25; n++ {
		for _, digit := range []string{"0", "1", "9"} {
			resultAsPlain(t, "ok "+strings.Repeat(digit, n))
			resultAsPlain(t, "ok 1"+strings.Repeat("0", n))
			resultAsPlain(t, "ok 0"+strings.Repeat(digit, n))
		}
	}
}

func TestHowManyValuesAResultHas(t *testing.T) {
	for _, number := range []string{" 0", " 7", " 999999", "   1"} {
		for n := range 40 {
			text := "ok" + strings.Repeat(number, n)
			if n > 32 {
				noResult(t, text, impl.ErrForm)
				continue
			}
			value, _ := strconv.Atoi(strings.TrimSpace(number))
			resultReadsAs(t, text, impl.Result{Values: slices.Repeat([]int{value}, n)})
		}
		for _, n := range []int{64, 100, 4096, 4097, 8000} {
			noResult(t, "ok"+strings.Repeat(number, n), impl.ErrForm)
		}
	}
}

// What is too long is told ahead of what is no result.
func TestLongTextsOfResults(t *testing.T) {
	for _, text := range []string{"ok", "check", "ok 1", "ok 1 999999", "ok" + strings.Repeat(" 0", 32)} {
		want, _ := plainReadResult(text)
		for _, n := range []int{impl.MaxText - 1, impl.MaxText, impl.MaxText + 1, impl.MaxText + 2} {
			blanks := strings.Repeat(" ", n-len(text))
			longs := []string{blanks + text, text + blanks}
			if strings.Contains(text, " ") {
				longs = append(longs, strings.Replace(text, " ", " "+blanks, 1))
			}
			for _, long := range longs {
				if n > impl.MaxText {
					noResult(t, long, impl.ErrLong)
				} else {
					resultReadsAs(t, long, want)
				}
			}
		}
	}
	for _, piece := range []string{" ", "x", "0", "ok", "ok ", "ok 1 ", " 1", "check ", "\x00", "\t", "bad 1 "} {
		text := strings.Repeat(piece, impl.MaxText/len(piece)+2)
		noResult(t, text[:impl.MaxText], impl.ErrForm)
		noResult(t, text[:impl.MaxText+1], impl.ErrLong)
	}
	for _, n := range []int{impl.MaxText, impl.MaxText + 1} {
		want := map[bool]int{true: impl.ErrLong, false: impl.ErrForm}[n > impl.MaxText]
		noResult(t, textOf(n), want)
		noResult(t, "ok "+strings.Repeat("1", n-3), want)
		noResult(t, "ok "+strings.Repeat("0", n-4)+"1", want)
		noResult(t, "ok"+strings.Repeat(" 1", n)[:n-2], want)
	}
}

func TestTextsOfResultsByChance(t *testing.T) {
	r := rand.New(rand.NewSource(58))
	pieces := append([]string{"ok", "ok", "ok", "ok", "ok", "0", "1", "5", "01", "-1", "999999", "1000000", " ", "  ", "\t", "x"}, plainWords...)
	bytesOf := "0123456789 okchefulrang-+\t\x00,O\xff"
	right, none := 0, 0
	for range 60000 {
		text := ""
		if r.Intn(2) == 0 {
			for range r.Intn(7) {
				text += pieces[r.Intn(len(pieces))]
				if r.Intn(6) > 0 {
					text += " "
				}
			}
		} else {
			text = "ok"
			for range r.Intn(5) {
				text += fmt.Sprint(" ", edgeCells[r.Intn(4)])
			}
			for range 1 + r.Intn(2) {
				at, by := r.Intn(len(text)), string(bytesOf[r.Intn(len(bytesOf))])
				text = []string{text[:at] + by + text[at+1:], text[:at] + by + text[at:], text[:at] + text[at+1:] + " "}[r.Intn(3)]
			}
		}
		resultAsPlain(t, text)
		if _, ok := plainReadResult(text); ok {
			right++
		} else {
			none++
		}
	}
	if right < 1000 || none < 1000 {
		t.Error("drawn:", right, none)
	}
}

// roomyMap has room behind its end, with what is none of its own there.
func roomyMap(m []impl.Entry) []impl.Entry {
	return append(slices.Clone(m), impl.Entry{Key: 99, Value: 99}, impl.Entry{}, impl.Entry{Key: -1, Value: -1})[:len(m)]
}

func spoilMap(m []impl.Entry) {
	m = m[:cap(m)]
	for i := range m {
		m[i] = impl.Entry{Key: -7, Value: -7}
	}
}

func TestNoCallChangesAMap(t *testing.T) {
	r := rand.New(rand.NewSource(59))
	maps := [][]impl.Entry{nil, {}, {{}}, someMap(), fullMap(), endsMap(), make([]impl.Entry, 12)}
	for n := range 12 {
		maps = append(maps, mapByChance(r, n, 14))
	}
	for i, was := range maps {
		for range 40 {
			list := batchByChance(r)
			for _, txn := range list {
				for k := range txn.Ops {
					if plainMapOK(was) {
						txn.Ops[k] = nearOp(r, was)
					}
				}
			}
			m, batch := roomyMap(was), roomyBatch(list)
			keptMap, kept := slices.Clone(m[:cap(m)]), keptBatch(brimOfBatch(batch))
			impl.MapOK(m)
			impl.MapGet(m, batch[0].Ops[0].Key)
			for _, o := range batch[0].Ops {
				impl.MapDo(m, o)
			}
			impl.MapTxn(m, batch[0])
			impl.MapBatch(m, batch)
			if !slices.Equal(m[:cap(m)], keptMap) || !alikeBatches(brimOfBatch(batch), kept) {
				t.Errorf("map %d, %v: %v %v", i, list, m[:cap(m)], batch)
			}
		}
	}
	for _, result := range append(rightResults(), badResults()...) {
		values := append(slices.Clone(result.Values), 5, -5)[:len(result.Values)]
		kept := slices.Clone(values[:cap(values)])
		impl.ResultText(impl.Result{Code: result.Code, Values: values})
		if !slices.Equal(values[:cap(values)], kept) {
			t.Error("ResultText", values)
		}
	}
	text := " ok  1 2 "
	kept := strings.Clone(text)
	impl.ReadResult(text)
	if text != kept {
		t.Error("changed a text")
	}
}

// mapCases are maps and batches of which some are done and some undone.
func mapCases(seed int64) (maps [][]impl.Entry, batches [][]impl.Txn) {
	r := rand.New(rand.NewSource(seed))
	for range 300 {
		m := mapByChance(r, r.Intn(12), 14)
		list := make([]impl.Txn, 1+r.Intn(2))
		for i := range list {
			for range 1 + r.Intn(4) {
				list[i].Ops = append(list[i].Ops, nearOp(r, m))
			}
		}
		maps, batches = append(maps, m), append(batches, list)
	}
	return maps, batches
}

func TestNoAnswerSharesAMap(t *testing.T) {
	maps, batches := mapCases(60)
	for i, was := range maps {
		for _, o := range batches[i][0].Ops {
			m := roomyMap(was)
			want, _, _ := plainDo(was, o)
			x, values, _ := impl.MapDo(m, o)
			y, _, _ := impl.MapDo(m, o)
			spoilNumbers(values)
			spoilMap(x)
			if !slices.Equal(m, was) || !slices.Equal(y, want) {
				t.Errorf("MapDo %v %v shares memory: %v %v", was, o, m, y)
			}
			x, values, _ = impl.MapDo(m, o)
			keptValues := slices.Clone(values)
			spoilMap(m)
			if !slices.Equal(x, want) || !slices.Equal(values, keptValues) {
				t.Errorf("MapDo %v %v shares memory: %v %v", was, o, x, values)
			}
		}
		m, txn := roomyMap(was), batches[i][0]
		want, result := plainTxn(was, txn)
		x, r, _ := impl.MapTxn(m, txn)
		spoilNumbers(r.Values)
		spoilMap(m)
		if !slices.Equal(x, want) {
			t.Errorf("MapTxn %v %v shares memory: %v", was, txn, x)
		}
		m = roomyMap(was)
		x, r, _ = impl.MapTxn(m, txn)
		spoilMap(x)
		if !slices.Equal(m, was) || !alikeResult(r, result) {
			t.Errorf("MapTxn %v %v shares memory: %v %v", was, txn, m, r)
		}
	}
}

func TestNoListsOfAMapBatchShareMemory(t *testing.T) {
	maps, batches := mapCases(61)
	for i, was := range maps {
		m, list := roomyMap(was), roomyBatch(batches[i])
		wantMap, want := plainBatch(was, list)
		for k := range want {
			x, results, _ := impl.MapBatch(m, list)
			spoilNumbers(results[k].Values)
			results[k] = want[k]
			if !slices.Equal(x, wantMap) || !slices.EqualFunc(results, want, alikeResult) {
				t.Errorf("MapBatch %v %v: result %d is shared: %v %v", was, list, k, x, results)
			}
		}
		x, results, _ := impl.MapBatch(m, list)
		spoilMap(x)
		if !slices.EqualFunc(results, want, alikeResult) {
			t.Errorf("MapBatch %v %v: the map is shared: %v", was, list, results)
		}
		x, results, _ = impl.MapBatch(m, list)
		clear(results[:cap(results)])
		spoilMap(m)
		for _, txn := range list {
			spoilOps(txn.Ops)
		}
		if !slices.Equal(x, wantMap) {
			t.Errorf("MapBatch %v shares memory: %v", was, x)
		}
	}
	a, _ := impl.ReadResult("ok 1 2 3")
	b, _ := impl.ReadResult("ok 1 2 3")
	spoilNumbers(a.Values)
	if !slices.Equal(b.Values, []int{1, 2, 3}) {
		t.Error("ReadResult", b)
	}
}
