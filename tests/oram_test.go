package tests

import (
	"fmt"
	"math"
	"math/rand"
	"slices"
	"testing"

	"loop.example/g00548/impl"
)

var (
	wrongIds     = []int{math.MinInt, math.MinInt + 1, -4294967296, -256, -12, -2, -1, 12, 13, 14, 15, 24, 255, 256, 257, 4294967296, 4294967297, math.MaxInt - 1, math.MaxInt}
	wrongPaths   = []int{math.MinInt, math.MinInt + 1, -4294967296, -256, -8, -7, -2, -1, 8, 9, 14, 15, 16, 255, 256, 257, 4294967296, 4294967297, math.MaxInt - 7, math.MaxInt - 1, math.MaxInt}
	wrongBuckets = []int{math.MinInt, math.MinInt + 1, -4294967296, -256, -15, -2, -1, 15, 16, 30, 31, 255, 256, 257, 4294967296, math.MaxInt - 1, math.MaxInt}
	wrongCells   = []int{math.MinInt, math.MinInt + 1, -4294967296, -1000000, -999999, -2, -1, 1000000, 1000001, 4294967296, 4294967297, math.MaxInt - 1, math.MaxInt}
	edgeCells    = []int{0, 1, 999998, 999999}

	// The ways by hand: below bucket i are 2 i + 1 and 2 i + 2.
	plainWays = [8][4]int{
		{0, 1, 3, 7}, {0, 1, 3, 8}, {0, 1, 4, 9}, {0, 1, 4, 10},
		{0, 2, 5, 11}, {0, 2, 5, 12}, {0, 2, 6, 13}, {0, 2, 6, 14},
	}
)

const nowhere = -2

// asked is what Access is handed beside a tree.
type asked struct {
	id    int
	write bool
	value int
	leaf  int
}

func toRead(id, leaf int) asked {
	return asked{id: id, leaf: leaf}
}

func toWrite(id, value, leaf int) asked {
	return asked{id, true, value, leaf}
}

func leavesInTurn() []int {
	return []int{0, 1, 2, 3, 4, 5, 6, 7, 0, 1, 2, 3}
}

// oramOf has leavesInTurn, and a value of its own in each block: of the block
// 3, 103. Blocks are told by their numbers.
func oramOf(stash []int, buckets map[int][]int) impl.Oram {
	return oramWith(leavesInTurn(), stash, buckets)
}

func oramWith(pos, stash []int, buckets map[int][]int) impl.Oram {
	o := impl.Oram{Pos: pos, Buckets: make([][]impl.Block, 15)}
	for _, id := range stash {
		o.Stash = append(o.Stash, cell(pos, id))
	}
	for bucket, ids := range buckets {
		for _, id := range ids {
			o.Buckets[bucket] = append(o.Buckets[bucket], cell(pos, id))
		}
	}
	return o
}

func cell(pos []int, id int) impl.Block {
	return impl.Block{Id: id, Leaf: pos[id], Value: 100 + id}
}

// someOram has blocks everywhere: 8 and 5 in the stash, 7, 0 in the root, 1,
// 6, 4, 10 in middle buckets, 11, 3 in a leaf's; 2 and 9 are nowhere.
func someOram() impl.Oram {
	return oramOf([]int{8, 5}, map[int][]int{0: {7, 0}, 1: {1}, 2: {6, 4}, 4: {10}, 10: {11, 3}})
}

// oramByChance is a right tree, also of such as no accesses come to. The fewer
// leaves are drawn, the more blocks are in each other's way.
func oramByChance(r *rand.Rand, leaves int) impl.Oram {
	o := impl.Oram{Pos: make([]int, 12), Buckets: make([][]impl.Block, 15)}
	for id := range o.Pos {
		o.Pos[id] = r.Intn(leaves) * 7 / max(1, leaves-1)
	}
	for _, id := range r.Perm(12) {
		b := impl.Block{Id: id, Leaf: o.Pos[id], Value: r.Intn(1000000)}
		bucket := plainWays[b.Leaf][r.Intn(4)]
		switch {
		case r.Intn(6) == 0:
		case r.Intn(3) > 0 && len(o.Buckets[bucket]) < 2:
			o.Buckets[bucket] = append(o.Buckets[bucket], b)
		default:
			o.Stash = append(o.Stash, b)
		}
	}
	return o
}

func oramsByChance(seed int64, n int) []impl.Oram {
	r := rand.New(rand.NewSource(seed))
	var out []impl.Oram
	for i := range n {
		out = append(out, oramByChance(r, 1+i%8))
	}
	return out
}

func rightOrams() map[string]impl.Oram {
	all := []int{0, 1, 2, 3, 4, 5, 6, 7, 8, 9, 10, 11}
	right := map[string]impl.Oram{
		"no block":      oramOf(nil, nil),
		"some":          someOram(),
		"empty lists":   {Pos: leavesInTurn(), Stash: []impl.Block{}, Buckets: slices.Repeat([][]impl.Block{{}}, 15)},
		"another cap":   {Pos: append(make([]int, 0, 99), leavesInTurn()...), Stash: make([]impl.Block, 0, 99), Buckets: make([][]impl.Block, 15, 99)},
		"all in stash":  oramOf(all, nil),
		"all backwards": oramOf([]int{11, 10, 9, 8, 7, 6, 5, 4, 3, 2, 1, 0}, nil),
		"leaves alone":  oramOf(nil, map[int][]int{7: {0, 8}, 8: {9, 1}, 9: {2, 10}, 10: {11, 3}, 11: {4}, 12: {5}, 13: {6}, 14: {7}}),
		"one leaf":      oramWith(make([]int, 12), []int{3, 1, 2, 0}, map[int][]int{0: {4, 5}, 1: {6, 7}, 3: {9, 8}, 7: {10, 11}}),
	}
	for id := range 12 {
		for _, bucket := range plainWays[leavesInTurn()[id]] {
			right[fmt.Sprintf("%d in %d", id, bucket)] = oramOf(nil, map[int][]int{bucket: {id}})
		}
		for _, value := range edgeCells {
			o := oramOf([]int{id}, nil)
			o.Stash[0].Value = value
			right[fmt.Sprintf("%d has %d", id, value)] = o
		}
	}
	return right
}

// badOrams are all that is not right, each in one thing alone.
func badOrams() map[string]impl.Oram {
	bad := map[string]impl.Oram{
		"zero":          {},
		"empty lists":   {Pos: []int{}, Stash: []impl.Block{}, Buckets: [][]impl.Block{}},
		"leaves alone":  {Pos: leavesInTurn()},
		"buckets alone": {Buckets: make([][]impl.Block, 15)},
		"blocks alone":  {Stash: []impl.Block{{Id: 0}}},
	}
	badShapes(bad)
	badBlocks(bad)
	badPlaces(bad)
	return bad
}

func badShapes(bad map[string]impl.Oram) {
	for _, n := range []int{0, 1, 11, 13, 24, impl.MaxList, impl.MaxList + 1} {
		o := oramOf(nil, nil)
		o.Pos = slices.Repeat(leavesInTurn(), 1+n/12)[:n]
		bad[fmt.Sprintf("%d leaves", n)] = o
	}
	for _, n := range []int{0, 1, 7, 14, 16, 30, impl.MaxList, impl.MaxList + 1} {
		o := oramOf(nil, nil)
		o.Buckets = make([][]impl.Block, n)
		bad[fmt.Sprintf("%d buckets", n)] = o
	}
	for _, leaf := range wrongPaths {
		for id := range 12 {
			o := oramOf(nil, nil)
			o.Pos[id] = leaf
			bad[fmt.Sprintf("%d has leaf %d, and is nowhere", id, leaf)] = o
		}
		// The block says the same, so that only its bounds are wrong.
		o := oramOf([]int{4}, nil)
		o.Pos[4], o.Stash[0].Leaf = leaf, leaf
		bad[fmt.Sprintf("4 has leaf %d", leaf)] = o
	}
	for bucket := range 15 {
		leaf := slices.IndexFunc(plainWays[:], func(way [4]int) bool { return slices.Contains(way[:], bucket) })
		bad[fmt.Sprintf("three blocks in %d", bucket)] = oramWith(slices.Repeat([]int{leaf}, 12), nil, map[int][]int{bucket: {0, 1, 2}})
		bad[fmt.Sprintf("all blocks in %d", bucket)] = oramWith(slices.Repeat([]int{leaf}, 12), nil, map[int][]int{bucket: {0, 1, 2, 3, 4, 5, 6, 7, 8, 9, 10, 11}})
	}
}

// onEachBlock makes a tree of someOram, changed in one block, for each block.
func onEachBlock(bad map[string]impl.Oram, name string, change func(b *impl.Block)) {
	for i := range someOram().Stash {
		o := someOram()
		change(&o.Stash[i])
		bad[fmt.Sprintf("%s in the stash at %d", name, i)] = o
	}
	for bucket, blocks := range someOram().Buckets {
		for i := range blocks {
			o := someOram()
			change(&o.Buckets[bucket][i])
			bad[fmt.Sprintf("%s in %d at %d", name, bucket, i)] = o
		}
	}
}

func badBlocks(bad map[string]impl.Oram) {
	for _, id := range wrongIds {
		onEachBlock(bad, fmt.Sprint("number ", id), func(b *impl.Block) { b.Id = id })
	}
	for _, leaf := range wrongPaths {
		onEachBlock(bad, fmt.Sprint("leaf ", leaf), func(b *impl.Block) { b.Leaf = leaf })
	}
	for _, value := range wrongCells {
		onEachBlock(bad, fmt.Sprint("value ", value), func(b *impl.Block) { b.Value = value })
	}
	for by := 1; by < 8; by++ {
		onEachBlock(bad, fmt.Sprintf("leaf %d on", by), func(b *impl.Block) { b.Leaf = (b.Leaf + by) % 8 })
	}
}

func badPlaces(bad map[string]impl.Oram) {
	pos := leavesInTurn()
	for id := range 12 {
		bad[fmt.Sprintf("%d twice in the stash", id)] = oramOf([]int{id, id}, nil)
		bad[fmt.Sprintf("%d twice in the stash, others between", id)] = oramOf([]int{id, (id + 1) % 12, (id + 2) % 12, id}, nil)
		bad[fmt.Sprintf("%d over MaxList times in the stash", id)] = oramOf(slices.Repeat([]int{id}, impl.MaxList+1), nil)
		for bucket := range 15 {
			way := plainWays[pos[id]]
			if !slices.Contains(way[:], bucket) {
				bad[fmt.Sprintf("%d in %d, off its way", id, bucket)] = oramOf(nil, map[int][]int{bucket: {id}})
				continue
			}
			bad[fmt.Sprintf("%d in the stash and in %d", id, bucket)] = oramOf([]int{id}, map[int][]int{bucket: {id}})
			bad[fmt.Sprintf("%d twice in %d", id, bucket)] = oramOf(nil, map[int][]int{bucket: {id, id}})
			for _, other := range way {
				if other > bucket {
					bad[fmt.Sprintf("%d in %d and in %d", id, bucket, other)] = oramOf(nil, map[int][]int{bucket: {id}, other: {id}})
				}
			}
		}
	}
	// The second one has another value, and is no other block for that.
	o := oramOf([]int{3, 3}, nil)
	o.Stash[1].Value = 7
	bad["3 twice, with two values"] = o
}

func keptOram(o impl.Oram) impl.Oram {
	out := impl.Oram{Pos: slices.Clone(o.Pos), Stash: slices.Clone(o.Stash), Buckets: slices.Clone(o.Buckets)}
	for i := range out.Buckets {
		out.Buckets[i] = slices.Clone(out.Buckets[i])
	}
	return out
}

// unlikeOrams tells where two trees are not alike; it is empty if they are.
func unlikeOrams(a, b impl.Oram) string {
	if !slices.Equal(a.Pos, b.Pos) {
		return fmt.Sprintf("leaves %v, not %v", a.Pos, b.Pos)
	}
	if !slices.Equal(a.Stash, b.Stash) {
		return fmt.Sprintf("stash %v, not %v", a.Stash, b.Stash)
	}
	if len(a.Buckets) != len(b.Buckets) {
		return fmt.Sprintf("%d buckets, not %d", len(a.Buckets), len(b.Buckets))
	}
	for i := range a.Buckets {
		if !slices.Equal(a.Buckets[i], b.Buckets[i]) {
			return fmt.Sprintf("bucket %d: %v, not %v", i, a.Buckets[i], b.Buckets[i])
		}
	}
	return ""
}

func isZeroOram(o impl.Oram) bool {
	return len(o.Pos) == 0 && len(o.Stash) == 0 && len(o.Buckets) == 0
}

func isBelow(bucket, above int) bool {
	return bucket == 2*above+1 || bucket == 2*above+2
}

// placesOf are all places in which a block is, -1 being the stash.
func placesOf(o impl.Oram, id int) []int {
	var out []int
	for _, b := range o.Stash {
		if b.Id == id {
			out = append(out, -1)
		}
	}
	for bucket, blocks := range o.Buckets {
		for _, b := range blocks {
			if b.Id == id {
				out = append(out, bucket)
			}
		}
	}
	return out
}

func plainWhere(o impl.Oram, id int) int {
	if places := placesOf(o, id); len(places) > 0 {
		return places[0]
	}
	return nowhere
}

func plainValue(o impl.Oram, id int) int {
	for _, b := range slices.Concat(append(slices.Clone(o.Buckets), o.Stash)...) {
		if b.Id == id {
			return b.Value
		}
	}
	return 0
}

// plainAccess goes by buckets, not by blocks as the program does: each bucket
// takes its blocks out of what the ones below left.
func plainAccess(o impl.Oram, a asked) impl.Oram {
	out := keptOram(o)
	way := plainWays[o.Pos[a.id]]
	all := out.Stash
	for _, bucket := range way {
		all = append(all, out.Buckets[bucket]...)
		out.Buckets[bucket] = nil
	}
	var list []impl.Block
	for _, b := range all {
		if b.Id != a.id {
			list = append(list, b)
		}
	}
	value := plainValue(o, a.id)
	if a.write {
		value = a.value
	}
	list = append(list, impl.Block{Id: a.id, Leaf: a.leaf, Value: value})
	out.Pos[a.id] = a.leaf
	for _, bucket := range []int{way[3], way[2], way[1], way[0]} {
		out.Buckets[bucket], list = plainTaken(bucket, list)
	}
	out.Stash = list
	return out
}

func plainTaken(bucket int, list []impl.Block) (taken, left []impl.Block) {
	for _, b := range list {
		if slices.Contains(plainWays[b.Leaf][:], bucket) && len(taken) < 2 {
			taken = append(taken, b)
		} else {
			left = append(left, b)
		}
	}
	return taken, left
}

func newOram(t *testing.T, leaves []int) impl.Oram {
	t.Helper()
	o, code := impl.NewOram(leaves)
	if code != impl.OK || !impl.OramOK(o) {
		t.Fatalf("NewOram %v: %d", leaves, code)
	}
	return o
}

func noOram(t *testing.T, leaves []int, want int) {
	t.Helper()
	if o, code := impl.NewOram(leaves); !isZeroOram(o) || code != want {
		t.Errorf("NewOram of %d leaves, %.80s: %v %d, not %d", len(leaves), fmt.Sprint(leaves), o, code, want)
	}
}

// access asks for the value and the leaf that were, too.
func access(t *testing.T, o impl.Oram, a asked) impl.Oram {
	t.Helper()
	x, value, leaf, code := impl.Access(o, a.id, a.write, a.value, a.leaf)
	if code != impl.OK || value != plainValue(o, a.id) || leaf != o.Pos[a.id] || !impl.OramOK(x) {
		t.Fatalf("Access %v of %v: value %d, leaf %d, code %d, %v", a, o, value, leaf, code, x)
	}
	return x
}

func noAccess(t *testing.T, o impl.Oram, a asked, want int) {
	t.Helper()
	x, value, leaf, code := impl.Access(o, a.id, a.write, a.value, a.leaf)
	if !isZeroOram(x) || value != 0 || leaf != 0 || code != want {
		t.Errorf("Access %v: %v, value %d, leaf %d, code %d, not %d", a, x, value, leaf, code, want)
	}
}

func accessAs(t *testing.T, o impl.Oram, a asked, want impl.Oram) {
	t.Helper()
	if diff := unlikeOrams(access(t, o, a), want); diff != "" {
		t.Errorf("Access %v of %v: %s", a, o, diff)
	}
}

func valueIs(t *testing.T, o impl.Oram, id, want int) {
	t.Helper()
	if value, code := impl.ValueAt(o, id); value != want || code != impl.OK {
		t.Errorf("ValueAt %d of %v: %d %d, not %d", id, o, value, code, want)
	}
}

func noValue(t *testing.T, o impl.Oram, id, want int) {
	t.Helper()
	if value, code := impl.ValueAt(o, id); value != 0 || code != want {
		t.Errorf("ValueAt %d: %d %d, not %d", id, value, code, want)
	}
}

func standsAt(t *testing.T, o impl.Oram, id, want int) {
	t.Helper()
	if want == nowhere {
		noPlace(t, o, id, impl.ErrNone)
	} else if place, code := impl.WhereIs(o, id); place != want || code != impl.OK {
		t.Errorf("WhereIs %d of %v: %d %d, not %d", id, o, place, code, want)
	}
}

func noPlace(t *testing.T, o impl.Oram, id, want int) {
	t.Helper()
	if place, code := impl.WhereIs(o, id); place != 0 || code != want {
		t.Errorf("WhereIs %d: %d %d, not %d", id, place, code, want)
	}
}

func TestBoundsOfWays(t *testing.T) {
	if impl.Ids != 12 || impl.Paths != 8 || impl.Buckets != 15 || impl.Room != 2 || impl.MaxCell != 999999 {
		t.Error(impl.Ids, impl.Paths, impl.Buckets, impl.Room, impl.MaxCell)
	}
}

func TestNewOrams(t *testing.T) {
	r := rand.New(rand.NewSource(21))
	lists := [][]int{leavesInTurn(), make([]int, 12), slices.Repeat([]int{7}, 12)}
	for range 50 {
		leaves := make([]int, 12)
		for i := range leaves {
			leaves[i] = r.Intn(8)
		}
		lists = append(lists, leaves)
	}
	for _, leaves := range lists {
		o := newOram(t, leaves)
		want := impl.Oram{Pos: leaves, Buckets: make([][]impl.Block, 15)}
		if diff := unlikeOrams(o, want); diff != "" {
			t.Errorf("NewOram %v: %s", leaves, diff)
		}
		for id := range 12 {
			valueIs(t, o, id, 0)
			standsAt(t, o, id, nowhere)
		}
	}
}

func TestLeavesOfAnotherNumber(t *testing.T) {
	noOram(t, nil, impl.ErrSize)
	noOram(t, []int{}, impl.ErrSize)
	for _, leaf := range slices.Concat([]int{0, 7}, wrongPaths) {
		for _, n := range []int{1, 2, 8, 10, 11, 13, 14, 15, 24, impl.MaxList - 1, impl.MaxList} {
			noOram(t, slices.Repeat([]int{leaf}, n), impl.ErrSize)
			noOram(t, append(make([]int, n-1), leaf), impl.ErrSize)
		}
		for _, n := range []int{impl.MaxList + 1, impl.MaxList + 12, 2 * impl.MaxList} {
			noOram(t, slices.Repeat([]int{leaf}, n), impl.ErrLong)
			noOram(t, append(make([]int, n-1), leaf), impl.ErrLong)
		}
	}
}

func TestLeavesThatAreOutOfBounds(t *testing.T) {
	for _, leaf := range wrongPaths {
		for at := range 12 {
			leaves := leavesInTurn()
			leaves[at] = leaf
			noOram(t, leaves, impl.ErrRange)
		}
		noOram(t, slices.Repeat([]int{leaf}, 12), impl.ErrRange)
	}
	for at := range 12 {
		for leaf := range 8 {
			leaves := leavesInTurn()
			leaves[at] = leaf
			newOram(t, leaves)
		}
	}
}

func TestWaysOfEachLeaf(t *testing.T) {
	for leaf := range 8 {
		way, code := impl.PathOf(leaf)
		if code != impl.OK || !slices.Equal(way, plainWays[leaf][:]) {
			t.Fatal("PathOf", leaf, way, code)
		}
		if way[0] != 0 || way[3] != 7+leaf {
			t.Error("ends of the way to", leaf, way)
		}
		for level := 1; level < 4; level++ {
			if !isBelow(way[level], way[level-1]) {
				t.Error("not below on the way to", leaf, way)
			}
		}
	}
}

func TestWaysOfNoLeaf(t *testing.T) {
	for _, leaf := range wrongPaths {
		if way, code := impl.PathOf(leaf); len(way) != 0 || code != impl.ErrRange {
			t.Error("PathOf", leaf, way, code)
		}
	}
}

func TestBucketsOnEachWay(t *testing.T) {
	for leaf := range 8 {
		var found []int
		for bucket := range 15 {
			on, code := impl.OnPath(bucket, leaf)
			if code != impl.OK {
				t.Error("OnPath", bucket, leaf, code)
			}
			if on {
				found = append(found, bucket)
			}
		}
		if !slices.Equal(found, plainWays[leaf][:]) {
			t.Error("OnPath", leaf, found)
		}
	}
}

func TestBucketsAndLeavesThatAreNone(t *testing.T) {
	none := func(bucket, leaf int) {
		t.Helper()
		if on, code := impl.OnPath(bucket, leaf); on || code != impl.ErrRange {
			t.Error("OnPath", bucket, leaf, on, code)
		}
	}
	for _, bucket := range wrongBuckets {
		for leaf := range 8 {
			none(bucket, leaf)
		}
	}
	for _, leaf := range wrongPaths {
		for bucket := range 15 {
			none(bucket, leaf)
		}
		for _, bucket := range wrongBuckets {
			none(bucket, leaf)
		}
	}
}

func TestRightOrams(t *testing.T) {
	for name, o := range rightOrams() {
		if !impl.OramOK(o) {
			t.Error("OramOK,", name)
		}
		access(t, o, toRead(3, 5))
	}
	for _, o := range oramsByChance(22, 2000) {
		if !impl.OramOK(o) {
			t.Error("OramOK", o)
		}
	}
}

func TestBadOrams(t *testing.T) {
	ids := slices.Concat([]int{0, 3, 11}, wrongIds)
	for name, o := range badOrams() {
		if impl.OramOK(o) {
			t.Error("OramOK,", name)
		}
		for _, id := range ids {
			noValue(t, o, id, impl.ErrBad)
			noPlace(t, o, id, impl.ErrBad)
			for _, write := range []bool{false, true} {
				noAccess(t, o, asked{id, write, 5, 5}, impl.ErrBad)
				noAccess(t, o, asked{id, write, -1, 5}, impl.ErrBad)
				noAccess(t, o, asked{id, write, 5, 8}, impl.ErrBad)
				noAccess(t, o, asked{id, write, 1000000, -1}, impl.ErrBad)
			}
		}
	}
}

// A tree that is made wrong and right by turns, by one thing each.
func TestWhatMakesATreeRightAgain(t *testing.T) {
	o := oramOf(nil, map[int][]int{4: {10, 2, 3}})
	if impl.OramOK(o) {
		t.Error("three blocks")
	}
	o.Buckets[4] = o.Buckets[4][:2]
	if !impl.OramOK(o) {
		t.Error("two blocks")
	}
	o.Pos[10] = 3
	if impl.OramOK(o) {
		t.Error("a leaf that is not Pos's")
	}
	o.Buckets[4][0].Leaf = 3
	if !impl.OramOK(o) {
		t.Error("a leaf that is Pos's")
	}
	o.Pos[10], o.Buckets[4][0].Leaf = 1, 1
	if impl.OramOK(o) {
		t.Error("a bucket that is not on the way")
	}
	o.Buckets[3], o.Buckets[4] = o.Buckets[4][:1], o.Buckets[4][1:]
	if !impl.OramOK(o) {
		t.Error("buckets on the way")
	}
}

// moved is o with another leaf and value of a block, which stays in its place.
func moved(o impl.Oram, id, leaf, value int) impl.Oram {
	o.Pos[id] = leaf
	for _, blocks := range append(slices.Clone(o.Buckets), o.Stash) {
		for i := range blocks {
			if blocks[i].Id == id {
				blocks[i].Leaf, blocks[i].Value = leaf, value
			}
		}
	}
	return o
}

// By hand: what comes into which place, of blocks in each place.
func TestKnownAccesses(t *testing.T) {
	for _, c := range []struct {
		name string
		a    asked
		want impl.Oram
	}{
		// The way 0, 1, 4, 9; the list is 8, 5, 7, 0, 1, 10, 2.
		{"nowhere, read, to the same leaf", toRead(2, 2), moved(oramOf([]int{1}, map[int][]int{0: {5, 7}, 1: {8, 0}, 2: {6, 4}, 9: {10, 2}, 10: {11, 3}}), 2, 2, 0)},
		{"nowhere, written, to another leaf", toWrite(2, 9, 3), moved(oramOf([]int{1}, map[int][]int{0: {5, 7}, 1: {8, 0}, 2: {6, 4}, 4: {2}, 9: {10}, 10: {11, 3}}), 2, 3, 9)},
		// The way 0, 1, 3, 7; the list is 5, 7, 0, 1, 8.
		{"in the stash, read, to the same leaf", toRead(8, 0), moved(oramOf(nil, map[int][]int{0: {5, 7}, 2: {6, 4}, 3: {1}, 4: {10}, 7: {0, 8}, 10: {11, 3}}), 8, 0, 108)},
		{"in the stash, written, to another half", toWrite(8, 0, 6), moved(oramOf([]int{8}, map[int][]int{0: {5, 7}, 2: {6, 4}, 3: {1}, 4: {10}, 7: {0}, 10: {11, 3}}), 8, 6, 0)},
		// The way 0, 2, 6, 14; the list is 8, 5, 0, 6, 4, 7.
		{"in the root, read, to the same leaf", toRead(7, 7), moved(oramOf(nil, map[int][]int{0: {8, 0}, 1: {1}, 2: {5, 4}, 4: {10}, 6: {6}, 10: {11, 3}, 14: {7}}), 7, 7, 107)},
		{"in the root, written, to another leaf", toWrite(7, 999999, 5), moved(oramOf([]int{7}, map[int][]int{0: {8, 0}, 1: {1}, 2: {5, 4}, 4: {10}, 6: {6}, 10: {11, 3}}), 7, 5, 999999)},
		// The way 0, 2, 5, 11; the list is 8, 5, 7, 0, 6, 4.
		{"in a middle bucket, read, to the leaf beside", toRead(4, 5), moved(oramOf(nil, map[int][]int{0: {8, 0}, 1: {1}, 2: {7, 6}, 4: {10}, 5: {5, 4}, 10: {11, 3}}), 4, 5, 104)},
		{"in a middle bucket, written, to the same leaf", toWrite(4, 4, 4), moved(oramOf(nil, map[int][]int{0: {8, 0}, 1: {1}, 2: {7, 6}, 4: {10}, 5: {5}, 10: {11, 3}, 11: {4}}), 4, 4, 4)},
		// The way 0, 1, 4, 10; the list is 8, 5, 7, 0, 1, 10, 11, 3.
		{"in a leaf's bucket, read, to another half", toRead(3, 7), moved(oramOf([]int{1, 3}, map[int][]int{0: {5, 7}, 1: {8, 0}, 2: {6, 4}, 4: {10}, 10: {11}}), 3, 7, 103)},
		{"in a leaf's bucket, written, to the same leaf", toWrite(3, 1, 3), moved(oramOf([]int{1}, map[int][]int{0: {5, 7}, 1: {8, 0}, 2: {6, 4}, 4: {10}, 10: {11, 3}}), 3, 3, 1)},
	} {
		t.Run(c.name, func(t *testing.T) {
			if !impl.OramOK(c.want) {
				t.Fatal("what is wanted is not right", c.want)
			}
			accessAs(t, someOram(), c.a, c.want)
		})
	}
}

// All blocks have leaf 0, and the way there has room for eight of them.
func TestBlocksThatDoNotFit(t *testing.T) {
	all := []int{6, 0, 11, 3, 9, 1, 10, 4, 2, 8, 5, 7}
	o := oramWith(make([]int, 12), all, nil)
	accessAs(t, o, toRead(3, 0), oramWith(make([]int, 12), []int{8, 5, 7, 3}, map[int][]int{7: {6, 0}, 3: {11, 9}, 1: {1, 10}, 0: {4, 2}}))
	// The one that is asked for fits where those ahead of it leave room.
	for n := range 12 {
		o := oramWith(make([]int, 12), all[:n], nil)
		places := map[int][]int{}
		for i, id := range all[:min(n+1, 8)] {
			bucket := plainWays[0][3-i/2]
			places[bucket] = append(places[bucket], id)
		}
		var left []int
		if n >= 8 {
			left = all[8 : n+1]
		}
		want := moved(oramWith(make([]int, 12), left, places), all[n], 0, 5)
		accessAs(t, o, toWrite(all[n], 5, 0), want)
	}
}

// The new leaf says how far down the block may go, on the way of the old one.
func TestHowFarDownABlockGoes(t *testing.T) {
	for was := range 8 {
		for leaf := range 8 {
			deepest := 0
			for _, bucket := range plainWays[was] {
				if slices.Contains(plainWays[leaf][:], bucket) {
					deepest = bucket
				}
			}
			pos := slices.Repeat([]int{was}, 12)
			for _, bucket := range append([]int{-1, nowhere}, plainWays[was][:]...) {
				o := oramWith(pos, nil, nil)
				switch bucket {
				case nowhere:
				case -1:
					o = oramWith(pos, []int{6}, nil)
				default:
					o = oramWith(pos, nil, map[int][]int{bucket: {6}})
				}
				standsAt(t, o, 6, bucket)
				standsAt(t, access(t, o, toRead(6, leaf)), 6, deepest)
				standsAt(t, access(t, o, toWrite(6, 1, leaf)), 6, deepest)
			}
		}
	}
}

// What cannot go down a way goes into the next bucket up that has room, ahead
// of what comes behind it in the list.
func TestBlocksThatGoIntoTheNextBucketUp(t *testing.T) {
	pos := []int{0, 0, 0, 0, 1, 1, 2, 7, 7, 0, 0, 0}
	o := oramWith(pos, []int{7, 4, 0, 6}, map[int][]int{0: {8, 1}, 1: {5}, 3: {2}})
	// The list is 7, 4, 0, 6, 8, 1, 5, 2, 3: bucket 7 takes 0 and 1, bucket 3
	// takes 4 and 5, bucket 1 takes 6 and 2, the root 7 and 8.
	accessAs(t, o, toWrite(3, 7, 0), moved(oramWith(slices.Clone(pos), []int{3}, map[int][]int{7: {0, 1}, 3: {4, 5}, 1: {6, 2}, 0: {7, 8}}), 3, 0, 7))
	// Without 2 in between, 3 has its room.
	o.Buckets[3] = nil
	accessAs(t, o, toWrite(3, 7, 0), moved(oramWith(slices.Clone(pos), nil, map[int][]int{7: {0, 1}, 3: {4, 5}, 1: {6, 3}, 0: {7, 8}}), 3, 0, 7))
	// With the leaf of the other half it has not.
	accessAs(t, o, toWrite(3, 7, 4), moved(oramWith(slices.Clone(pos), []int{3}, map[int][]int{7: {0, 1}, 3: {4, 5}, 1: {6}, 0: {7, 8}}), 3, 4, 7))
}

// None of the list may go lower than the root, which has room for two.
func TestTheStashIsInTheListsOrder(t *testing.T) {
	pos := []int{0, 7, 6, 5, 4, 7, 6, 5, 4, 7, 6, 5}
	o := oramWith(pos, []int{9, 2, 11, 5, 1}, map[int][]int{0: {8, 3}, 2: {4, 6}})
	accessAs(t, o, toRead(0, 4), moved(oramWith(slices.Clone(pos), []int{11, 5, 1, 8, 3, 0}, map[int][]int{0: {9, 2}, 2: {4, 6}}), 0, 4, 0))
	accessAs(t, o, toRead(0, 0), moved(oramWith(slices.Clone(pos), []int{11, 5, 1, 8, 3}, map[int][]int{0: {9, 2}, 2: {4, 6}, 7: {0}}), 0, 0, 0))
	// What was read of the stash is behind all others in it.
	x := access(t, o, toRead(0, 7))
	if x.Stash[len(x.Stash)-1] != (impl.Block{Id: 0, Leaf: 7}) {
		t.Error("stash", x.Stash)
	}
}

func TestAccessesOfEachBlockToEachLeaf(t *testing.T) {
	for _, o := range rightOrams() {
		for id := range 12 {
			for leaf := range 8 {
				accessAs(t, o, toRead(id, leaf), plainAccess(o, toRead(id, leaf)))
				accessAs(t, o, toWrite(id, 7, leaf), plainAccess(o, toWrite(id, 7, leaf)))
			}
		}
	}
}

func TestAccessesByChance(t *testing.T) {
	r := rand.New(rand.NewSource(23))
	for _, o := range oramsByChance(24, 4000) {
		for range 6 {
			a := asked{r.Intn(12), r.Intn(2) == 0, r.Intn(1000000), r.Intn(8)}
			accessAs(t, o, a, plainAccess(o, a))
		}
	}
}

// One access of each block changes what it may change, and no more.
func TestAnAccessChangesNoOtherBlock(t *testing.T) {
	for _, o := range oramsByChance(25, 300) {
		for id := range 12 {
			a := toWrite(id, 500000+id, (o.Pos[id]+3)%8)
			x := access(t, o, a)
			way := plainWays[o.Pos[id]]
			for other := range 12 {
				if other != id && (plainValue(x, other) != plainValue(o, other) || x.Pos[other] != o.Pos[other]) {
					t.Errorf("Access %v of %v changed %d", a, o, other)
				}
			}
			if plainValue(x, id) != a.value || x.Pos[id] != a.leaf {
				t.Errorf("Access %v of %v: %v", a, o, x)
			}
			for bucket := range 15 {
				if !slices.Contains(way[:], bucket) && !slices.Equal(x.Buckets[bucket], o.Buckets[bucket]) {
					t.Errorf("Access %v of %v changed bucket %d", a, o, bucket)
				}
			}
		}
	}
}

// A read leaves the value, whatever value it is handed.
func TestAReadWritesNothing(t *testing.T) {
	for _, o := range oramsByChance(26, 100) {
		for id := range 12 {
			was := plainValue(o, id)
			for _, value := range edgeCells {
				x := access(t, o, asked{id, false, value, 5})
				valueIs(t, x, id, was)
				valueIs(t, access(t, o, asked{id, true, value, 5}), id, value)
				if diff := unlikeOrams(x, access(t, o, toRead(id, 5))); diff != "" {
					t.Errorf("a read of %d hangs on %d: %s", id, value, diff)
				}
			}
		}
	}
}

// A block that was nowhere is somewhere from its first access on, of value 0.
func TestABlockThatIsReadIsThere(t *testing.T) {
	for id := range 12 {
		o := newOram(t, leavesInTurn())
		leaf := o.Pos[id]
		x := access(t, o, toRead(id, leaf))
		standsAt(t, x, id, 7+leaf)
		valueIs(t, x, id, 0)
		if blocks := x.Buckets[7+leaf]; len(blocks) != 1 || blocks[0] != (impl.Block{Id: id, Leaf: leaf}) {
			t.Error("bucket", blocks)
		}
	}
}

// holdsWays asks what promise 9 says of a tree: each block's value, in one
// place at most, which is the stash or on the way to its leaf.
func holdsWays(t *testing.T, o impl.Oram, values, leaves []int, there []bool) {
	t.Helper()
	if !impl.OramOK(o) || !slices.Equal(o.Pos, leaves) {
		t.Fatalf("not right: %v, leaves %v", o, leaves)
	}
	for id := range 12 {
		valueIs(t, o, id, values[id])
		places := placesOf(o, id)
		if !there[id] {
			if len(places) != 0 {
				t.Fatalf("%d was never asked for: %v", id, o)
			}
			standsAt(t, o, id, nowhere)
			continue
		}
		if len(places) != 1 {
			t.Fatalf("%d is in %v: %v", id, places, o)
		}
		standsAt(t, o, id, places[0])
		if places[0] != -1 && !slices.Contains(plainWays[leaves[id]][:], places[0]) {
			t.Fatalf("%d is off its way: %v", id, o)
		}
	}
}

func TestManyAccessesInARow(t *testing.T) {
	for seed := range int64(8) {
		r := rand.New(rand.NewSource(30 + seed))
		leaves := make([]int, 12)
		for i := range leaves {
			leaves[i] = r.Intn(8)
		}
		o, values, there := newOram(t, leaves), make([]int, 12), make([]bool, 12)
		for range 600 {
			// The fewer leaves are drawn, the more blocks are left over.
			a := asked{r.Intn(12), r.Intn(2) == 0, r.Intn(1000000), r.Intn(1+int(seed)) % 8}
			x, value, leaf, code := impl.Access(o, a.id, a.write, a.value, a.leaf)
			if code != impl.OK || value != values[a.id] || leaf != leaves[a.id] {
				t.Fatalf("Access %v: value %d, not %d, leaf %d, not %d, code %d", a, value, values[a.id], leaf, leaves[a.id], code)
			}
			if diff := unlikeOrams(x, plainAccess(o, a)); diff != "" {
				t.Fatalf("Access %v of %v: %s", a, o, diff)
			}
			leaves[a.id], there[a.id] = a.leaf, true
			if a.write {
				values[a.id] = a.value
			}
			o = x
			holdsWays(t, o, values, leaves, there)
		}
	}
}

func TestAccessesOutOfBounds(t *testing.T) {
	for _, o := range []impl.Oram{oramOf(nil, nil), someOram()} {
		for _, write := range []bool{false, true} {
			for _, value := range edgeCells {
				for _, leaf := range []int{0, 3, 7} {
					for _, id := range wrongIds {
						noAccess(t, o, asked{id, write, value, leaf}, impl.ErrRange)
					}
				}
				for _, id := range []int{0, 5, 11} {
					for _, leaf := range wrongPaths {
						noAccess(t, o, asked{id, write, value, leaf}, impl.ErrRange)
					}
				}
			}
			for _, value := range wrongCells {
				for id := range 12 {
					for leaf := range 8 {
						noAccess(t, o, asked{id, write, value, leaf}, impl.ErrRange)
					}
				}
			}
		}
	}
}

func TestAccessesOutOfSeveralBounds(t *testing.T) {
	for _, id := range wrongIds {
		for _, leaf := range wrongPaths {
			noAccess(t, someOram(), asked{id, true, 5, leaf}, impl.ErrRange)
			for _, value := range wrongCells {
				noAccess(t, someOram(), asked{id, true, value, leaf}, impl.ErrRange)
				noAccess(t, someOram(), asked{id, false, value, leaf}, impl.ErrRange)
				noAccess(t, impl.Oram{}, asked{id, true, value, leaf}, impl.ErrBad)
				noAccess(t, impl.Oram{}, asked{id, false, value, leaf}, impl.ErrBad)
			}
		}
	}
}

func TestEdgesOfAccesses(t *testing.T) {
	for _, id := range []int{0, 11} {
		for _, leaf := range []int{0, 7} {
			for _, value := range []int{0, 999999} {
				for _, write := range []bool{false, true} {
					a := asked{id, write, value, leaf}
					accessAs(t, someOram(), a, plainAccess(someOram(), a))
				}
			}
		}
	}
}

func TestValuesAndPlacesOfEachBlock(t *testing.T) {
	o := someOram()
	want := map[int]int{8: -1, 5: -1, 7: 0, 0: 0, 1: 1, 6: 2, 4: 2, 10: 4, 11: 10, 3: 10, 2: nowhere, 9: nowhere}
	for id, place := range want {
		standsAt(t, o, id, place)
		if place == nowhere {
			valueIs(t, o, id, 0)
		} else {
			valueIs(t, o, id, 100+id)
		}
	}
	for id, leaf := range leavesInTurn() {
		for _, bucket := range plainWays[leaf] {
			o := oramOf(nil, map[int][]int{bucket: {id}})
			standsAt(t, o, id, bucket)
			valueIs(t, o, id, 100+id)
			noPlace(t, o, (id+1)%12, impl.ErrNone)
			valueIs(t, o, (id+1)%12, 0)
		}
	}
	for _, o := range oramsByChance(27, 500) {
		for id := range 12 {
			standsAt(t, o, id, plainWhere(o, id))
			valueIs(t, o, id, plainValue(o, id))
		}
	}
}

// A block of value 0 is somewhere; one that is nowhere only has that value.
func TestBlocksOfValueNought(t *testing.T) {
	for _, value := range edgeCells {
		o := oramOf([]int{5}, map[int][]int{10: {3}})
		o.Stash[0].Value, o.Buckets[10][0].Value = value, value
		valueIs(t, o, 5, value)
		valueIs(t, o, 3, value)
		standsAt(t, o, 5, -1)
		standsAt(t, o, 3, 10)
	}
}

func TestNumbersThatAreNoBlocks(t *testing.T) {
	for _, o := range []impl.Oram{oramOf(nil, nil), someOram(), oramOf([]int{0, 11}, nil)} {
		for _, id := range wrongIds {
			noValue(t, o, id, impl.ErrRange)
			noPlace(t, o, id, impl.ErrRange)
		}
	}
}

func sameOrams(t *testing.T, name string, a, b impl.Oram, want bool) {
	t.Helper()
	if impl.SameOram(a, b) != want || impl.SameOram(b, a) != want {
		t.Errorf("SameOram, %s: not %v", name, want)
	}
}

func TestSameOrams(t *testing.T) {
	for name, o := range rightOrams() {
		sameOrams(t, name, o, o, true)
		sameOrams(t, name, o, keptOram(o), true)
	}
	none := impl.Oram{Pos: leavesInTurn(), Stash: []impl.Block{}, Buckets: slices.Repeat([][]impl.Block{{}}, 15)}
	sameOrams(t, "empty lists and nil", none, oramOf(nil, nil), true)
	sameOrams(t, "empty lists and a new one", none, newOram(t, leavesInTurn()), true)
	roomy := impl.Oram{Pos: append(make([]int, 0, 90), leavesInTurn()...), Stash: make([]impl.Block, 0, 9), Buckets: make([][]impl.Block, 15, 90)}
	sameOrams(t, "another capacity", roomy, none, true)
	// All is alike, though nothing is right.
	sameOrams(t, "zero and empty lists", impl.Oram{}, impl.Oram{Pos: []int{}, Stash: []impl.Block{}, Buckets: [][]impl.Block{}}, true)
	for name, o := range badOrams() {
		sameOrams(t, name, o, keptOram(o), true)
		sameOrams(t, name, o, someOram(), false)
		sameOrams(t, name, o, oramOf(nil, nil), false)
	}
}

func TestOramsThatAreUnlikeInALeaf(t *testing.T) {
	for id := range 12 {
		x := someOram()
		x.Pos[id]++
		sameOrams(t, "a leaf", someOram(), x, false)
		x = oramOf(nil, nil)
		x.Pos[id] = (x.Pos[id] + 1) % 8
		sameOrams(t, "a leaf, of right ones", oramOf(nil, nil), x, false)
	}
	x := someOram()
	x.Pos = append(x.Pos, 0)
	sameOrams(t, "one more leaf", someOram(), x, false)
	x.Pos = x.Pos[:11]
	sameOrams(t, "a leaf less", someOram(), x, false)
}

func TestOramsThatAreUnlikeInABlock(t *testing.T) {
	others := map[string]impl.Oram{}
	onEachBlock(others, "another number", func(b *impl.Block) { b.Id++ })
	onEachBlock(others, "another leaf", func(b *impl.Block) { b.Leaf++ })
	onEachBlock(others, "another value", func(b *impl.Block) { b.Value++ })
	for name, x := range others {
		sameOrams(t, name, someOram(), x, false)
	}
	sameOrams(t, "the stash's order", someOram(), oramOf([]int{5, 8}, map[int][]int{0: {7, 0}, 1: {1}, 2: {6, 4}, 4: {10}, 10: {11, 3}}), false)
	sameOrams(t, "one less in the stash", someOram(), oramOf([]int{8}, map[int][]int{0: {7, 0}, 1: {1}, 2: {6, 4}, 4: {10}, 10: {11, 3}}), false)
	sameOrams(t, "one more in the stash", someOram(), oramOf([]int{8, 5, 9}, map[int][]int{0: {7, 0}, 1: {1}, 2: {6, 4}, 4: {10}, 10: {11, 3}}), false)
	sameOrams(t, "a bucket's order", someOram(), oramOf([]int{8, 5}, map[int][]int{0: {0, 7}, 1: {1}, 2: {6, 4}, 4: {10}, 10: {11, 3}}), false)
	sameOrams(t, "a block in the next bucket up", someOram(), oramOf([]int{8, 5}, map[int][]int{0: {7, 0}, 1: {1, 10}, 2: {6, 4}, 10: {11, 3}}), false)
	sameOrams(t, "the stash and a bucket", oramOf([]int{5}, nil), oramOf(nil, map[int][]int{0: {5}}), false)
}

func TestOramsThatAreUnlikeInABucket(t *testing.T) {
	for bucket := range 15 {
		x := someOram()
		x.Buckets[bucket] = append(x.Buckets[bucket], impl.Block{})
		sameOrams(t, "one more block", someOram(), x, false)
		if y := someOram(); len(y.Buckets[bucket]) > 0 {
			y.Buckets[bucket] = y.Buckets[bucket][1:]
			sameOrams(t, "a block less", someOram(), y, false)
		}
	}
	x := someOram()
	x.Buckets = append(x.Buckets, nil)
	sameOrams(t, "one more bucket", someOram(), x, false)
	x.Buckets = x.Buckets[:14]
	sameOrams(t, "a bucket less", someOram(), x, false)
	x.Buckets = nil
	sameOrams(t, "no bucket", someOram(), x, false)
	sameOrams(t, "no bucket and empty ones", impl.Oram{}, impl.Oram{Buckets: make([][]impl.Block, 15)}, false)
}

// oramAnswers are all calls that answer a tree, with each kind of answer.
func oramAnswers() map[string]func(o impl.Oram) impl.Oram {
	answers := map[string]func(o impl.Oram) impl.Oram{
		"NewOram": func(o impl.Oram) impl.Oram {
			x, _ := impl.NewOram(o.Pos)
			return x
		},
	}
	for id := range 12 {
		for _, a := range []asked{toRead(id, 0), toRead(id, 7), toWrite(id, 5, 3), toWrite(id, 5, 6), toWrite(id, -1, 6), toRead(id, 8)} {
			answers[fmt.Sprint("Access ", a)] = func(o impl.Oram) impl.Oram {
				x, _, _, _ := impl.Access(o, a.id, a.write, a.value, a.leaf)
				return x
			}
		}
	}
	return answers
}

// roomyOram has room behind the ends of its lists, with blocks there that are
// none of its own.
func roomyOram(o impl.Oram) impl.Oram {
	behind := []impl.Block{{Id: 2, Leaf: 2, Value: 2}, {Id: 9, Leaf: 1, Value: 9}}
	out := impl.Oram{
		Pos:     append(slices.Clone(o.Pos), 5, 6)[:len(o.Pos)],
		Stash:   append(slices.Clone(o.Stash), behind...)[:len(o.Stash)],
		Buckets: append(slices.Clone(o.Buckets), slices.Clone(behind))[:len(o.Buckets)],
	}
	for i, blocks := range out.Buckets {
		out.Buckets[i] = append(slices.Clone(blocks), behind...)[:len(blocks)]
	}
	return out
}

// oneMemory is o with all its blocks in one list, of which the stash and the
// buckets are pieces, each with those behind it in its room.
func oneMemory(o impl.Oram) impl.Oram {
	all := slices.Concat(append([][]impl.Block{o.Stash}, o.Buckets...)...)
	out := impl.Oram{Pos: slices.Clone(o.Pos), Stash: all[:len(o.Stash)]}
	all = all[len(o.Stash):]
	for _, blocks := range o.Buckets {
		out.Buckets = append(out.Buckets, all[:len(blocks)])
		all = all[len(blocks):]
	}
	return out
}

func roomyOrams() []impl.Oram {
	out := []impl.Oram{roomyOram(impl.Oram{}), roomyOram(oramOf([]int{3, 3}, nil))}
	right := append(oramsByChance(28, 12), oramOf(nil, nil), someOram(), oramOf([]int{0, 1, 2, 3, 4, 5, 6, 7, 8, 9, 10, 11}, nil))
	for _, o := range right {
		out = append(out, roomyOram(o), oneMemory(o))
	}
	return out
}

// brimOfOram is the tree with all that is behind the ends of its lists.
func brimOfOram(o impl.Oram) impl.Oram {
	out := impl.Oram{Pos: o.Pos[:cap(o.Pos)], Stash: o.Stash[:cap(o.Stash)]}
	for _, blocks := range o.Buckets[:cap(o.Buckets)] {
		out.Buckets = append(out.Buckets, blocks[:cap(blocks)])
	}
	return out
}

func spoilNumbers(list []int) {
	list = list[:cap(list)]
	for i := range list {
		list[i] = 99
	}
}

func spoilBlocks(list []impl.Block) {
	list = list[:cap(list)]
	for i := range list {
		list[i] = impl.Block{Id: 99, Leaf: 99, Value: 99}
	}
}

// spoilOram writes over all that a tree holds, and behind its ends.
func spoilOram(o impl.Oram) {
	spoilNumbers(o.Pos)
	spoilBlocks(o.Stash)
	buckets := o.Buckets[:cap(o.Buckets)]
	for i := range buckets {
		spoilBlocks(buckets[i])
		buckets[i] = []impl.Block{{Id: 99}}
	}
}

func TestNoCallChangesAnOram(t *testing.T) {
	for name, call := range oramAnswers() {
		for i, o := range roomyOrams() {
			kept := keptOram(brimOfOram(o))
			call(o)
			impl.OramOK(o)
			impl.ValueAt(o, 3)
			impl.WhereIs(o, 3)
			impl.SameOram(o, o)
			if diff := unlikeOrams(brimOfOram(o), kept); diff != "" {
				t.Errorf("%s changed tree %d: %s", name, i, diff)
			}
		}
	}
}

func TestNoAnswerSharesAnOram(t *testing.T) {
	for name, call := range oramAnswers() {
		for i, o := range roomyOrams() {
			kept := keptOram(brimOfOram(o))
			x := call(o)
			want := keptOram(x)
			spoilOram(x)
			if diff := unlikeOrams(brimOfOram(o), kept); diff != "" {
				t.Errorf("%s shares tree %d: %s", name, i, diff)
			}
			y := call(o)
			spoilOram(o)
			if diff := unlikeOrams(y, want); diff != "" {
				t.Errorf("%s hangs on tree %d: %s", name, i, diff)
			}
		}
	}
}

func TestNoListsOfAnOramShareMemory(t *testing.T) {
	for name, call := range oramAnswers() {
		for i, o := range roomyOrams() {
			want := keptOram(call(o))
			for bucket := range want.Buckets {
				x := call(o)
				spoilBlocks(x.Buckets[bucket])
				x.Buckets[bucket] = want.Buckets[bucket]
				if diff := unlikeOrams(x, want); diff != "" {
					t.Errorf("%s of tree %d: bucket %d is shared: %s", name, i, bucket, diff)
				}
			}
			x := call(o)
			spoilBlocks(x.Stash)
			spoilNumbers(x.Pos)
			x.Stash, x.Pos = want.Stash, want.Pos
			if diff := unlikeOrams(x, want); diff != "" {
				t.Errorf("%s of tree %d: the stash is shared: %s", name, i, diff)
			}
		}
	}
}

func TestNoWayIsShared(t *testing.T) {
	for leaf := range 8 {
		first, _ := impl.PathOf(leaf)
		second, _ := impl.PathOf(leaf)
		spoilNumbers(first)
		third, _ := impl.PathOf(leaf)
		if !slices.Equal(second, plainWays[leaf][:]) || !slices.Equal(third, plainWays[leaf][:]) {
			t.Error("PathOf shares memory", leaf, second, third)
		}
	}
}

// Trees whose lists share memory are right as any other.
func TestOramsOfOneMemory(t *testing.T) {
	for _, o := range oramsByChance(29, 200) {
		for id := range 12 {
			x := oneMemory(o)
			sameOrams(t, "one memory", o, x, true)
			accessAs(t, x, toWrite(id, 4, 2), plainAccess(o, toWrite(id, 4, 2)))
			valueIs(t, x, id, plainValue(o, id))
			standsAt(t, x, id, plainWhere(o, id))
		}
	}
}
