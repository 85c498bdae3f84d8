package tests

import (
	"fmt"
	"math"
	"math/rand"
	"slices"
	"strings"
	"testing"

	"loop.example/g00548/impl"
)

var (
	wrongLeaves  = []int{math.MinInt, math.MinInt + 1, -4294967296, -256, -16, -2, -1, 16, 17, 31, 32, 255, 256, 257, 65536, 4294967296, math.MaxInt - 1, math.MaxInt}
	wrongDigests = []int{0, 1, 16, 30, 31, 33, 34, 64, 65, impl.MaxText - 1, impl.MaxText}
	longTexts    = []int{impl.MaxText + 1, impl.MaxText + 2, 2 * impl.MaxText}
	leafSizes    = []int{0, 1, 2, 53, 54, 55, 61, 62, 63, 64, 65, 125, 126, 127, 128, impl.SectorSize - 1, impl.SectorSize, impl.SectorSize + 1, impl.MaxText - 2, impl.MaxText - 1, impl.MaxText}
	placesOfList = []int{0, 1, 7, 8, 14, 15}
)

// proved is what CheckProof is handed.
type proved struct {
	root  string
	at    int
	text  string
	proof []string
}

func (p proved) String() string {
	var sizes []int
	for _, beside := range p.proof {
		sizes = append(sizes, len(beside))
	}
	return fmt.Sprintf("root of %d, place %d, text of %d, proof of %v", len(p.root), p.at, len(p.text), sizes)
}

func (p proved) with(level int, beside string) proved {
	p.proof = slices.Clone(p.proof)
	p.proof[level] = beside
	return p
}

func (p proved) in(at int) proved {
	p.at = at
	return p
}

func (p proved) of(text string) proved {
	p.text = text
	return p
}

func (p proved) by(proof []string) proved {
	p.proof = proof
	return p
}

func (p proved) to(root string) proved {
	p.root = root
	return p
}

func plainLeaf(at int, text string) string {
	return plainDigest("\x00" + string([]byte{byte(at)}) + text)
}

func plainJoin(a, b string) string {
	return plainDigest("\x01" + a + b)
}

// plainRange is the digest of the texts from place first on, as many as there
// are in list, which is cut in halves.
func plainRange(list []string, first int) string {
	if len(list) == 1 {
		return plainLeaf(first, list[0])
	}
	half := len(list) / 2
	return plainJoin(plainRange(list[:half], first), plainRange(list[half:], first+half))
}

// plainProof are the digests of the halves in which the leaf is not, from the
// least ones on.
func plainProof(list []string, at int) []string {
	return besideIn(list, 0, at)
}

func besideIn(list []string, first, at int) []string {
	if len(list) == 1 {
		return nil
	}
	half := len(list) / 2
	if at < first+half {
		return append(besideIn(list[:half], first, at), plainRange(list[half:], first+half))
	}
	return append(besideIn(list[half:], first+half, at), plainRange(list[:half], first))
}

func letterTexts() []string {
	return strings.Split("abcdefghijklmnop", "")
}

func textsByChance(r *rand.Rand, n int) []string {
	list := make([]string, n)
	for i := range list {
		text := make([]byte, r.Intn(impl.SectorSize+1))
		r.Read(text)
		list[i] = string(text)
	}
	return list
}

// someTexts are sixteen texts that are unlike.
func someTexts() []string {
	return textsByChance(rand.New(rand.NewSource(16)), impl.Leaves)
}

// textLists are lists that have a root: of unlike texts, of alike ones, of
// empty ones, of the longest ones.
func textLists() map[string][]string {
	return map[string][]string{
		"letters": letterTexts(),
		"unlike":  someTexts(),
		"alike":   slices.Repeat([]string{"alike"}, 16),
		"empty":   make([]string, 16),
		"longest": slices.Repeat([]string{textOf(impl.SectorSize)}, 16),
		"pairs":   slices.Repeat([]string{"one", "two"}, 8),
		"halves":  slices.Repeat(letterTexts()[:8], 2),
	}
}

func leafDigest(t *testing.T, at int, text string) string {
	t.Helper()
	digest, code := impl.LeafDigest(at, text)
	if code != impl.OK || len(digest) != 32 {
		t.Errorf("LeafDigest %d of %d bytes: %x %d", at, len(text), digest, code)
	}
	return digest
}

func noLeafDigest(t *testing.T, at int, text string, want int) {
	t.Helper()
	if digest, code := impl.LeafDigest(at, text); digest != "" || code != want {
		t.Errorf("LeafDigest %d of %d bytes: %x %d, not %d", at, len(text), digest, code, want)
	}
}

func joinDigests(t *testing.T, a, b string) string {
	t.Helper()
	digest, code := impl.JoinDigests(a, b)
	if code != impl.OK || len(digest) != 32 {
		t.Errorf("JoinDigests %x %x: %x %d", a, b, digest, code)
	}
	return digest
}

func noJoin(t *testing.T, a, b string, want int) {
	t.Helper()
	if digest, code := impl.JoinDigests(a, b); digest != "" || code != want {
		t.Errorf("JoinDigests of %d and %d bytes: %x %d, not %d", len(a), len(b), digest, code, want)
	}
}

func rootOf(t *testing.T, list []string) string {
	t.Helper()
	root, code := impl.RootOf(list)
	if code != impl.OK || len(root) != 32 {
		t.Errorf("RootOf %.80q: %x %d", list, root, code)
	}
	return root
}

func noRoot(t *testing.T, list []string, want int) {
	t.Helper()
	if root, code := impl.RootOf(list); root != "" || code != want {
		t.Errorf("RootOf %d texts: %x %d, not %d", len(list), root, code, want)
	}
}

func proofOf(t *testing.T, list []string, at int) []string {
	t.Helper()
	proof, code := impl.ProofOf(list, at)
	if code != impl.OK || len(proof) != 4 {
		t.Fatalf("ProofOf %.80q, %d: %x %d", list, at, proof, code)
	}
	return proof
}

func noProof(t *testing.T, list []string, at, want int) {
	t.Helper()
	if proof, code := impl.ProofOf(list, at); len(proof) != 0 || code != want {
		t.Errorf("ProofOf %d texts, %d: %x %d, not %d", len(list), at, proof, code, want)
	}
}

// noTree wants code, and nothing else, of both calls, whatever the place is.
func noTree(t *testing.T, list []string, want int) {
	t.Helper()
	noRoot(t, list, want)
	for _, at := range slices.Concat(placesOfList, wrongLeaves) {
		noProof(t, list, at, want)
	}
}

func checksAs(t *testing.T, p proved, want bool) {
	t.Helper()
	if right, code := impl.CheckProof(p.root, p.at, p.text, p.proof); right != want || code != impl.OK {
		t.Errorf("CheckProof, %v: %t %d, not %t", p, right, code, want)
	}
}

func noCheck(t *testing.T, p proved, want int) {
	t.Helper()
	if right, code := impl.CheckProof(p.root, p.at, p.text, p.proof); right || code != want {
		t.Errorf("CheckProof, %v: %t %d, not %d", p, right, code, want)
	}
}

func chainTip(t *testing.T, tip, text string) string {
	t.Helper()
	next, code := impl.ChainTip(tip, text)
	if code != impl.OK || len(next) != 32 {
		t.Errorf("ChainTip %x of %d bytes: %x %d", tip, len(text), next, code)
	}
	return next
}

func noTip(t *testing.T, tip, text string, want int) {
	t.Helper()
	if next, code := impl.ChainTip(tip, text); next != "" || code != want {
		t.Errorf("ChainTip of %d and %d bytes: %x %d, not %d", len(tip), len(text), next, code, want)
	}
}

// provedIn is a leaf of list with its proof and root, as the plain program
// makes them.
func provedIn(list []string, at int) proved {
	return proved{plainRange(list, 0), at, list[at], plainProof(list, at)}
}

func someProved(at int) proved {
	return provedIn(someTexts(), at)
}

func digestAt(n int) string {
	return plainDigest(fmt.Sprint(n))
}

func TestBoundsOfTrees(t *testing.T) {
	if impl.Leaves != 16 {
		t.Error(impl.Leaves)
	}
}

// Made by another program of SHA-256, from the bytes that chapter 8 tells.
func TestKnownTrees(t *testing.T) {
	if digest := leafDigest(t, 3, "d"); digest != unhex(t, "74ce00de0b374d2e51987b7baf671d797984039d3813bc4661e1b36439f379cb") {
		t.Errorf("LeafDigest: %x", digest)
	}
	if digest := leafDigest(t, 15, ""); digest != unhex(t, "3b2b7c6ee25e2f28a6235e273eaf13f504bd445024147ebacb878262aae90509") {
		t.Errorf("LeafDigest: %x", digest)
	}
	if digest := joinDigests(t, plainDigest("a"), plainDigest("b")); digest != unhex(t, "1fdf7b651907a893865fdf1866cf251d60d527dfafa10a663514f4f9ee34ab22") {
		t.Errorf("JoinDigests: %x", digest)
	}
	if root := rootOf(t, letterTexts()); root != unhex(t, "0876166b5d0352afc90ea72720c9ef97d81128ee734757d609b48e8d89a44edc") {
		t.Errorf("RootOf: %x", root)
	}
	if root := rootOf(t, make([]string, 16)); root != unhex(t, "93f2bd0cd60b2e597cf53fb12ae63ed157e0c10efbfe097d23caf8a5f59c6e27") {
		t.Errorf("RootOf: %x", root)
	}
	if tip := chainTip(t, plainDigest("a"), "more"); tip != unhex(t, "f5f37fa606154a31e0e864352b7b0a0ddac15ee1b6196310bad48e1dd1c1f203") {
		t.Errorf("ChainTip: %x", tip)
	}
}

func TestLeavesOfEachLengthAndPlace(t *testing.T) {
	for at := range impl.Leaves {
		for _, size := range leafSizes {
			text := textOf(size)
			if leafDigest(t, at, text) != plainLeaf(at, text) {
				t.Errorf("LeafDigest %d of %d bytes", at, size)
			}
		}
	}
	for n := range 300 {
		text := textOf(n)
		if leafDigest(t, n%16, text) != plainLeaf(n%16, text) {
			t.Errorf("LeafDigest of %d bytes", n)
		}
	}
}

func TestEachPlaceHasADigestOfItsOwn(t *testing.T) {
	for _, size := range leafSizes {
		seen := map[string]bool{}
		for at := range impl.Leaves {
			seen[leafDigest(t, at, textOf(size))] = true
		}
		if len(seen) != impl.Leaves {
			t.Errorf("two places have one digest of %d bytes", size)
		}
	}
}

func TestPlacesThatAreNoLeaves(t *testing.T) {
	for _, at := range wrongLeaves {
		for _, size := range leafSizes {
			noLeafDigest(t, at, textOf(size), impl.ErrRange)
		}
		for _, size := range longTexts {
			noLeafDigest(t, at, textOf(size), impl.ErrLong)
		}
	}
}

func TestLeavesThatAreTooLong(t *testing.T) {
	for at := range impl.Leaves {
		for _, size := range longTexts {
			noLeafDigest(t, at, textOf(size), impl.ErrLong)
		}
	}
}

func TestJoinedDigests(t *testing.T) {
	for i := range 20 {
		for j := range 20 {
			a, b := digestAt(i), digestAt(j)
			digest := joinDigests(t, a, b)
			if digest != plainJoin(a, b) {
				t.Errorf("JoinDigests %d %d: %x", i, j, digest)
			}
			if i != j && digest == joinDigests(t, b, a) {
				t.Errorf("JoinDigests %d %d: which one is ahead does not count", i, j)
			}
		}
	}
	zeros, ones := strings.Repeat("\x00", 32), strings.Repeat("\xff", 32)
	for _, pair := range [][2]string{{zeros, zeros}, {zeros, ones}, {ones, zeros}, {ones, ones}} {
		if joinDigests(t, pair[0], pair[1]) != plainJoin(pair[0], pair[1]) {
			t.Errorf("JoinDigests %x", pair)
		}
	}
}

func TestEachBitOfJoinedDigestsCounts(t *testing.T) {
	a, b := digestAt(1), digestAt(2)
	seen := map[string]bool{joinDigests(t, a, b): true}
	for bit := range 8 * 32 {
		seen[joinDigests(t, changedAt(a, bit/8, 1<<(bit%8)), b)] = true
		seen[joinDigests(t, a, changedAt(b, bit/8, 1<<(bit%8)))] = true
	}
	if len(seen) != 1+2*8*32 {
		t.Error(len(seen))
	}
}

func TestTextsThatAreNoDigests(t *testing.T) {
	right := digestAt(1)
	for _, size := range wrongDigests {
		noJoin(t, textOf(size), right, impl.ErrSize)
		noJoin(t, right, textOf(size), impl.ErrSize)
		noJoin(t, textOf(size), textOf(size), impl.ErrSize)
		for _, long := range longTexts {
			noJoin(t, textOf(size), textOf(long), impl.ErrLong)
			noJoin(t, textOf(long), textOf(size), impl.ErrLong)
		}
	}
	// Together they have the bytes of two digests.
	noJoin(t, textOf(31), textOf(33), impl.ErrSize)
	noJoin(t, textOf(33), textOf(31), impl.ErrSize)
	noJoin(t, textOf(64), "", impl.ErrSize)
	for _, long := range longTexts {
		noJoin(t, right, textOf(long), impl.ErrLong)
		noJoin(t, textOf(long), right, impl.ErrLong)
		noJoin(t, textOf(long), textOf(long), impl.ErrLong)
	}
}

func TestRootsAndProofs(t *testing.T) {
	for name, list := range textLists() {
		root := rootOf(t, list)
		if root != plainRange(list, 0) {
			t.Errorf("RootOf %s: %x", name, root)
		}
		for at, text := range list {
			proof := proofOf(t, list, at)
			if !slices.Equal(proof, plainProof(list, at)) {
				t.Errorf("ProofOf %s, %d: %x", name, at, proof)
			}
			checksAs(t, proved{root, at, text, proof}, true)
		}
	}
}

func TestRootsAndProofsByChance(t *testing.T) {
	r := rand.New(rand.NewSource(8))
	for range 100 {
		list := textsByChance(r, impl.Leaves)
		at := r.Intn(impl.Leaves)
		want := provedIn(list, at)
		if root := rootOf(t, list); root != want.root {
			t.Errorf("RootOf: %x", root)
		}
		if proof := proofOf(t, list, at); !slices.Equal(proof, want.proof) {
			t.Errorf("ProofOf %d: %x", at, proof)
		}
		checksAs(t, want, true)
	}
}

// pairsUp joins the digests of a level by the program's own call.
func pairsUp(t *testing.T, level []string) []string {
	var out []string
	for i := 0; i < len(level); i += 2 {
		out = append(out, joinDigests(t, level[i], level[i+1]))
	}
	return out
}

func TestProofsAreTheDigestsBesideTheWay(t *testing.T) {
	list := someTexts()
	var level []string
	for at, text := range list {
		level = append(level, leafDigest(t, at, text))
	}
	for height := range 4 {
		for at := range impl.Leaves {
			beside := at/(1<<height) + 1
			if beside%2 == 0 {
				beside -= 2
			}
			if proof := proofOf(t, list, at); proof[height] != level[beside] {
				t.Errorf("ProofOf %d: on level %d stands %x", at, height, proof[height])
			}
		}
		level = pairsUp(t, level)
	}
	if len(level) != 1 || rootOf(t, list) != level[0] {
		t.Error("RootOf", len(level))
	}
}

func TestRootsHangOnEachText(t *testing.T) {
	for name, list := range textLists() {
		seen := map[string]bool{rootOf(t, list): true}
		for at := range list {
			other := slices.Clone(list)
			other[at] = "another"
			seen[rootOf(t, other)] = true
		}
		if len(seen) != 17 {
			t.Errorf("%s: %d roots", name, len(seen))
		}
	}
}

func TestRootsHangOnTheOrderOfTexts(t *testing.T) {
	list := letterTexts()
	root := rootOf(t, list)
	for i := range list {
		for j := range i {
			other := slices.Clone(list)
			other[i], other[j] = other[j], other[i]
			if rootOf(t, other) == root {
				t.Error("RootOf", i, j)
			}
		}
	}
}

func TestListsOfAnotherNumber(t *testing.T) {
	noTree(t, nil, impl.ErrSize)
	noTree(t, []string{}, impl.ErrSize)
	for _, n := range []int{1, 2, 4, 8, 14, 15, 17, 18, 31, 32, 33, 64, 256, impl.MaxList - 1, impl.MaxList} {
		noTree(t, make([]string, n), impl.ErrSize)
		noTree(t, slices.Repeat([]string{textOf(impl.SectorSize + 1)}, n), impl.ErrSize)
	}
	for _, n := range []int{impl.MaxList + 1, impl.MaxList + 16, 2 * impl.MaxList} {
		noTree(t, make([]string, n), impl.ErrLong)
		noTree(t, slices.Repeat([]string{textOf(impl.SectorSize + 1)}, n), impl.ErrLong)
	}
	noTree(t, someTexts()[1:], impl.ErrSize)
	noTree(t, append(someTexts(), ""), impl.ErrSize)
}

func TestTextsAsLongAsASector(t *testing.T) {
	for at := range impl.Leaves {
		list := someTexts()
		list[at] = textOf(impl.SectorSize)
		want := provedIn(list, at)
		if root := rootOf(t, list); root != want.root {
			t.Errorf("RootOf: %x", root)
		}
		if proof := proofOf(t, list, at); !slices.Equal(proof, want.proof) {
			t.Errorf("ProofOf %d: %x", at, proof)
		}
		checksAs(t, want, true)
		// Within a list no text is bounded by MaxText.
		for _, size := range []int{impl.SectorSize + 1, impl.SectorSize + 2, impl.MaxText, impl.MaxText + 1} {
			list[at] = textOf(size)
			noTree(t, list, impl.ErrSize)
		}
	}
}

func TestPlacesThatHaveNoProof(t *testing.T) {
	for _, list := range textLists() {
		for _, at := range wrongLeaves {
			noProof(t, list, at, impl.ErrRange)
		}
	}
}

func TestProofsOfAnotherText(t *testing.T) {
	for at := range impl.Leaves {
		p := someProved(at)
		checksAs(t, p, true)
		for _, text := range []string{"", p.text + "\x00", p.text[1:], p.text[:len(p.text)-1], "\x00" + p.text, "another", textOf(impl.SectorSize + 1), textOf(impl.MaxText)} {
			checksAs(t, p.of(text), false)
		}
		for i, text := range someTexts() {
			checksAs(t, p.of(text), i == at)
		}
		for _, i := range []int{0, len(p.text) / 2, len(p.text) - 1} {
			checksAs(t, p.of(changedAt(p.text, i, 1)), false)
		}
	}
}

func TestProofsInAnotherPlace(t *testing.T) {
	for name, list := range textLists() {
		for at := range impl.Leaves {
			p := provedIn(list, at)
			for other := range impl.Leaves {
				if right, code := impl.CheckProof(p.root, other, p.text, p.proof); right != (other == at) || code != impl.OK {
					t.Errorf("CheckProof, %s, of %d at %d: %t %d", name, at, other, right, code)
				}
			}
		}
	}
}

func TestProofsOfAnotherRoot(t *testing.T) {
	other := letterTexts()
	other[0] = "b"
	for at := range impl.Leaves {
		p := someProved(at)
		for bit := range 8 * 32 {
			checksAs(t, p.to(changedAt(p.root, bit/8, 1<<(bit%8))), false)
		}
		for _, root := range []string{plainRange(letterTexts(), 0), plainRange(other, 0), strings.Repeat("\x00", 32), plainLeaf(at, p.text), p.proof[3]} {
			checksAs(t, p.to(root), false)
		}
	}
}

func TestEachBitOfAProofCounts(t *testing.T) {
	for at := range impl.Leaves {
		p := someProved(at)
		for level, beside := range p.proof {
			for i := range beside {
				checksAs(t, p.with(level, changedAt(beside, i, 1<<(i%8))), false)
			}
			checksAs(t, p.with(level, strings.Repeat("\x00", 32)), false)
		}
		checksAs(t, p, true)
	}
	p := someProved(9)
	for level, beside := range p.proof {
		for bit := range 8 * 32 {
			checksAs(t, p.with(level, changedAt(beside, bit/8, 1<<(bit%8))), false)
		}
	}
}

func TestProofsInAnotherOrder(t *testing.T) {
	for at := range impl.Leaves {
		p := someProved(at)
		for i := range p.proof {
			for j := range i {
				checksAs(t, p.with(i, p.proof[j]).with(j, p.proof[i]), false)
			}
		}
		back := slices.Clone(p.proof)
		slices.Reverse(back)
		checksAs(t, p.by(back), false)
	}
}

// Where all leaves were of one digest, two of a proof in each other's places
// would not tell; the place within the digest makes them unlike.
func TestProofsOfAlikeTextsInAnotherOrder(t *testing.T) {
	for at := range impl.Leaves {
		p := provedIn(make([]string, 16), at)
		for i := range p.proof {
			for j := range i {
				checksAs(t, p.with(i, p.proof[j]).with(j, p.proof[i]), false)
			}
		}
	}
}

// A proof is asked for no list: also a text that is too long for a sector is
// proved by digests that lead to a root.
func TestProofsOfTextsOfEachLength(t *testing.T) {
	for at := range impl.Leaves {
		for _, size := range leafSizes {
			list := someTexts()
			list[at] = textOf(size)
			p := provedIn(list, at)
			checksAs(t, p, true)
			checksAs(t, p.in(at^1), false)
			if size > 0 {
				checksAs(t, p.of(p.text[1:]), false)
			}
		}
		for _, size := range longTexts {
			list := someTexts()
			list[at] = textOf(size)
			noCheck(t, provedIn(list, at), impl.ErrLong)
		}
	}
}

func TestProofsByDigestsByChance(t *testing.T) {
	for at := range impl.Leaves {
		digest := plainLeaf(at, "a text")
		var proof []string
		for level := range 4 {
			beside := digestAt(100*at + level)
			proof = append(proof, beside)
			if at&(1<<level) == 0 {
				digest = plainJoin(digest, beside)
			} else {
				digest = plainJoin(beside, digest)
			}
		}
		for other := range impl.Leaves {
			checksAs(t, proved{digest, other, "a text", proof}, other == at)
		}
	}
}

func TestProofsOfAnotherNumber(t *testing.T) {
	for at := range impl.Leaves {
		p := someProved(at)
		noCheck(t, p.by(nil), impl.ErrSize)
		noCheck(t, p.by([]string{}), impl.ErrSize)
		for n := range 4 {
			noCheck(t, p.by(p.proof[:n]), impl.ErrSize)
			noCheck(t, p.by(p.proof[n+1:]), impl.ErrSize)
		}
		for _, n := range []int{5, 6, 8, 15, 16, impl.MaxList - 1, impl.MaxList} {
			noCheck(t, p.by(slices.Repeat(p.proof, n)[:n]), impl.ErrSize)
		}
		for _, n := range []int{impl.MaxList + 1, impl.MaxList + 4, 2 * impl.MaxList} {
			noCheck(t, p.by(make([]string, n)), impl.ErrLong)
		}
		noCheck(t, p.by(append(slices.Clone(p.proof), p.root)), impl.ErrSize)
		noCheck(t, p.by(append(slices.Clone(p.proof), "")), impl.ErrSize)
	}
	// Neither the root itself nor a way that ends short of it is proved.
	p := someProved(0)
	noCheck(t, p.by(nil).to(plainLeaf(0, p.text)), impl.ErrSize)
	noCheck(t, p.by(p.proof[:3]).to(plainRange(someTexts()[:8], 0)), impl.ErrSize)
}

func TestDigestsOfProofsOfAnotherLength(t *testing.T) {
	for at := range impl.Leaves {
		p := someProved(at)
		for level, beside := range p.proof {
			for _, wrong := range []string{"", beside[:31], beside[1:], beside + "\x00", "\x00" + beside, beside + beside} {
				noCheck(t, p.with(level, wrong), impl.ErrSize)
			}
			// Within a list no text is bounded by MaxText.
			for _, size := range slices.Concat(wrongDigests, longTexts) {
				noCheck(t, p.with(level, textOf(size)), impl.ErrSize)
			}
		}
		noCheck(t, p.by(make([]string, 4)), impl.ErrSize)
	}
}

// Two digests that are cut elsewhere are the same bytes, and no proof.
func TestJoinedBytesOfAnotherCut(t *testing.T) {
	right := plainLeaf(0, "a text")
	beside := plainLeaf(1, "beside")
	p := proved{plainJoin(right, beside), 0, "a text", []string{beside, "", "", ""}}
	noCheck(t, p, impl.ErrSize)
	noCheck(t, p.by([]string{beside}), impl.ErrSize)
}

func TestRootsOfAnotherLength(t *testing.T) {
	for at := range impl.Leaves {
		p := someProved(at)
		for _, root := range []string{p.root[:31], p.root[1:], p.root + "\x00", "\x00" + p.root} {
			noCheck(t, p.to(root), impl.ErrSize)
		}
		for _, size := range wrongDigests {
			noCheck(t, p.to(textOf(size)), impl.ErrSize)
		}
		for _, size := range longTexts {
			noCheck(t, p.to(textOf(size)), impl.ErrLong)
		}
	}
}

func TestPlacesThatProveNothing(t *testing.T) {
	p := someProved(0)
	for _, at := range wrongLeaves {
		noCheck(t, p.in(at), impl.ErrRange)
		noCheck(t, p.in(at).of(""), impl.ErrRange)
		noCheck(t, p.in(at).of(textOf(impl.MaxText)), impl.ErrRange)
	}
}

func TestWhichCodeOfProofsIsFirst(t *testing.T) {
	long, many := textOf(impl.MaxText+1), make([]string, impl.MaxList+1)
	for _, at := range slices.Concat(placesOfList, wrongLeaves) {
		p := someProved(0).in(at)
		for _, size := range wrongDigests {
			// The root and the number are ahead of the place, the place is ahead of the digests.
			noCheck(t, p.to(textOf(size)), impl.ErrSize)
			noCheck(t, p.to(textOf(size)).by(nil), impl.ErrSize)
			noCheck(t, p.to(textOf(size)).by(p.proof[1:]), impl.ErrSize)
			noCheck(t, p.to(textOf(size)).with(3, "short"), impl.ErrSize)
			noCheck(t, p.to(textOf(size)).of(long), impl.ErrLong)
			noCheck(t, p.to(textOf(size)).by(many), impl.ErrLong)
			noCheck(t, p.to(long).with(0, textOf(size)), impl.ErrLong)
			noCheck(t, p.of(long).with(3, textOf(size)), impl.ErrLong)
		}
		noCheck(t, p.by(nil), impl.ErrSize)
		noCheck(t, p.by(p.proof[:3]), impl.ErrSize)
		noCheck(t, p.by(append(slices.Clone(p.proof), "")), impl.ErrSize)
		noCheck(t, p.by(nil).of(long), impl.ErrLong)
		noCheck(t, p.by(nil).to(long), impl.ErrLong)
		noCheck(t, p.by(many), impl.ErrLong)
		noCheck(t, p.of(long), impl.ErrLong)
		noCheck(t, p.to(long), impl.ErrLong)
		noCheck(t, p.to(long).of(long).by(many), impl.ErrLong)
	}
	for _, at := range wrongLeaves {
		for level := range 4 {
			for _, size := range slices.Concat(wrongDigests, longTexts) {
				noCheck(t, someProved(0).in(at).with(level, textOf(size)), impl.ErrRange)
			}
		}
		noCheck(t, someProved(0).in(at).by(make([]string, 4)), impl.ErrRange)
	}
}

func TestTipsOfEachLength(t *testing.T) {
	for i, tip := range []string{digestAt(0), digestAt(1), strings.Repeat("\x00", 32), strings.Repeat("\xff", 32)} {
		for _, size := range append([]int{22, 23, 24, 30, 31, 32}, leafSizes...) {
			text := textOf(size)
			if chainTip(t, tip, text) != plainDigest("\x02"+tip+text) {
				t.Errorf("ChainTip %d of %d bytes", i, size)
			}
		}
		for n := range 200 {
			if chainTip(t, tip, textOf(n)) != plainDigest("\x02"+tip+textOf(n)) {
				t.Errorf("ChainTip %d of %d bytes", i, n)
			}
		}
	}
}

func chained(t *testing.T, tip string, texts ...string) string {
	t.Helper()
	for _, text := range texts {
		tip = chainTip(t, tip, text)
	}
	return tip
}

func TestChainsOfTexts(t *testing.T) {
	start := digestAt(0)
	want := start
	texts := append(someTexts(), "", "", "a text", "a text")
	for i, text := range texts {
		want = plainDigest("\x02" + want + text)
		if tip := chained(t, start, texts[:i+1]...); tip != want {
			t.Errorf("ChainTip of %d texts: %x", i+1, tip)
		}
	}
	tips := []string{
		start, chained(t, start, ""), chained(t, start, "", ""), chained(t, start, "a"), chained(t, start, "b"),
		chained(t, start, "a", "b"), chained(t, start, "b", "a"), chained(t, start, "ab"), chained(t, start, "ba"),
		chained(t, start, "a", "", "b"), chained(t, start, "a", "b", ""), chained(t, start, "", "a", "b"), chained(t, digestAt(1), "a", "b"),
	}
	slices.Sort(tips)
	if len(slices.Compact(tips)) != 13 {
		t.Error("two chains have one tip")
	}
}

func TestEachBitOfAChainCounts(t *testing.T) {
	tip, text := digestAt(0), textOf(40)
	seen := map[string]bool{chainTip(t, tip, text): true}
	for bit := range 8 * 32 {
		seen[chainTip(t, changedAt(tip, bit/8, 1<<(bit%8)), text)] = true
	}
	for bit := range 8 * 40 {
		seen[chainTip(t, tip, changedAt(text, bit/8, 1<<(bit%8)))] = true
	}
	if len(seen) != 1+8*32+8*40 {
		t.Error(len(seen))
	}
}

func TestTipsOfAnotherLength(t *testing.T) {
	for _, size := range wrongDigests {
		for _, text := range []string{"", "a text", textOf(32), textOf(impl.MaxText)} {
			noTip(t, textOf(size), text, impl.ErrSize)
		}
		for _, long := range longTexts {
			noTip(t, textOf(size), textOf(long), impl.ErrLong)
		}
	}
	for _, long := range longTexts {
		noTip(t, digestAt(0), textOf(long), impl.ErrLong)
		noTip(t, textOf(long), textOf(long), impl.ErrLong)
		for _, size := range leafSizes {
			noTip(t, textOf(long), textOf(size), impl.ErrLong)
		}
	}
}

// A leaf, a pair and a link of the same bytes are not the same digest.
func TestEachUseHasADigestOfItsOwn(t *testing.T) {
	a, b := digestAt(0), digestAt(1)
	seen := map[string]bool{
		plainDigest(a + b):    true,
		joinDigests(t, a, b):  true,
		chainTip(t, a, b):     true,
		leafDigest(t, 0, a+b): true,
	}
	if len(seen) != 4 {
		t.Error("two uses have one digest")
	}
}

func TestNoProofIsShared(t *testing.T) {
	list := someTexts()
	kept := slices.Clone(list)
	for at := range list {
		want := plainProof(kept, at)
		first, second := proofOf(t, list, at), proofOf(t, list, at)
		for i := range first {
			first[i] = "spoilt"
		}
		first = append(first, "more")
		if !slices.Equal(second, want) || !slices.Equal(proofOf(t, list, at), want) || !slices.Equal(list, kept) {
			t.Error("ProofOf shares memory", at, len(first))
		}
		for i := range list {
			list[i] = "spoilt"
		}
		if !slices.Equal(second, want) {
			t.Error("ProofOf shares memory with its list", at)
		}
		copy(list, kept)
	}
}

func TestNothingIsWrittenBehindLists(t *testing.T) {
	whole := append(someTexts(), "behind", "the end")
	kept := slices.Clone(whole)
	for at := range impl.Leaves {
		impl.RootOf(whole[:16])
		impl.ProofOf(whole[:16], at)
		impl.RootOf(whole[:15])
		impl.ProofOf(whole[:17], at)
		impl.ProofOf(whole[:16], 16)
	}
	if !slices.Equal(whole, kept) {
		t.Error("changed texts")
	}
	for at := range impl.Leaves {
		p := someProved(at)
		proof := append(slices.Clone(p.proof), "behind", "the end")
		kept := slices.Clone(proof)
		checksAs(t, p.by(proof[:4]), true)
		checksAs(t, p.by(proof[:4]).in(at^1), false)
		noCheck(t, p.by(proof[:3]), impl.ErrSize)
		noCheck(t, p.by(proof[:5]), impl.ErrSize)
		noCheck(t, p.by(proof[2:]), impl.ErrSize)
		noCheck(t, p.by(proof[:4]).in(-1), impl.ErrRange)
		if !slices.Equal(proof, kept) {
			t.Error("changed a proof", at)
		}
	}
}

func TestNoTextOfATreeIsChanged(t *testing.T) {
	s := textOf(impl.MaxText)
	kept := strings.Clone(s)
	impl.LeafDigest(0, s)
	impl.LeafDigest(15, s[1:])
	impl.LeafDigest(16, s)
	impl.JoinDigests(s[:32], s[32:64])
	impl.JoinDigests(s[:32], s)
	impl.ChainTip(s[:32], s)
	impl.ChainTip(s, s)
	impl.CheckProof(s[:32], 3, s, []string{s[:32], s[32:64], s[64:96], s[96:128]})
	impl.CheckProof(s, 3, s, []string{s})
	impl.RootOf(slices.Repeat([]string{s[:700]}, 16))
	impl.ProofOf(slices.Repeat([]string{s[:700]}, 16), 3)
	if s != kept {
		t.Error("changed a text")
	}
}
