package tests

import (
	"encoding/binary"
	"fmt"
	"math"
	"math/rand"
	"slices"
	"strings"
	"testing"

	"loop.example/g00548/impl"
)

var (
	kinds       = []int{impl.BoState, impl.BoBucket, impl.BoLog}
	wrongKinds  = []int{math.MinInt, -256, -255, -3, -2, -1, 0, 4, 5, 256, 257, 258, 259, 1<<32 + 1, math.MaxInt}
	wrongPlaces = append([]int{255, 256, 257, 65535, 65536, 65537, -65536, 1 << 32}, wrongSectors...)
	epochs      = []int{0, 1, 254, 255, 256, 257, 65535, 65536, 1048578, 16777215, 16777216, 4294967295, 4294967296, 4294967297, impl.MaxEpoch, impl.MaxSeal - 1, impl.MaxSeal}
	wrongEpochs = []int{math.MinInt, -impl.MaxSeal, -4294967296, -256, -2, -1, impl.MaxSeal + 1, impl.MaxSeal + 2, 2 * impl.MaxSeal, 1 << 48, 1 << 62, math.MaxInt}
	blockSize   = []int{0, 1, 63, 64, 65}
)

// block is what SealAt and OpenAt are handed.
type block struct {
	key                string
	kind, place, epoch int
	text               string
}

func (b block) String() string {
	return fmt.Sprintf("key of %d, kind %d, place %d, epoch %d, text of %d", len(b.key), b.kind, b.place, b.epoch, len(b.text))
}

func (b block) with(text string) block {
	b.text = text
	return b
}

func (b block) at(kind, place, epoch int) block {
	b.kind, b.place, b.epoch = kind, place, epoch
	return b
}

// boxed is the box that a block is.
func (b block) boxed() box {
	return box{b.key, plainNonce(b.kind, b.place, b.epoch), "block", b.text}
}

func plainNonce(kind, place, epoch int) string {
	out := []byte{byte(kind)}
	out = binary.LittleEndian.AppendUint16(out, uint16(place))
	out = append(out, 0)
	return string(binary.LittleEndian.AppendUint64(out, uint64(epoch)))
}

func someBlock(size int) block {
	return block{textOf(32), impl.BoBucket, 17, 300, textOf(size)}
}

func nonceOf(t *testing.T, kind, place, epoch int) string {
	t.Helper()
	nonce, code := impl.NonceOf(kind, place, epoch)
	if code != impl.OK || len(nonce) != 12 {
		t.Errorf("NonceOf %d %d %d: %x %d", kind, place, epoch, nonce, code)
	}
	return nonce
}

func noNonce(t *testing.T, kind, place, epoch int) {
	t.Helper()
	if nonce, code := impl.NonceOf(kind, place, epoch); nonce != "" || code != impl.ErrRange {
		t.Errorf("NonceOf %d %d %d: %x %d", kind, place, epoch, nonce, code)
	}
}

func sealAt(t *testing.T, b block) string {
	t.Helper()
	sealed, code := impl.SealAt(b.key, b.kind, b.place, b.epoch, b.text)
	if code != impl.OK || len(sealed) != len(b.text)+16 {
		t.Errorf("SealAt, %v: %d bytes, %d", b, len(sealed), code)
	}
	return sealed
}

func blockOpensAs(t *testing.T, b block, want string) {
	t.Helper()
	if text, code := impl.OpenAt(b.key, b.kind, b.place, b.epoch, b.text); text != want || code != impl.OK {
		t.Errorf("OpenAt, %v: %.20x %d", b, text, code)
	}
}

func noBlockOpening(t *testing.T, b block, want int) {
	t.Helper()
	if text, code := impl.OpenAt(b.key, b.kind, b.place, b.epoch, b.text); text != "" || code != want {
		t.Errorf("OpenAt, %v: %.20x %d, not %d", b, text, code, want)
	}
}

// noBlock wants code, and nothing else, of both calls.
func noBlock(t *testing.T, b block, want int) {
	t.Helper()
	if sealed, code := impl.SealAt(b.key, b.kind, b.place, b.epoch, b.text); sealed != "" || code != want {
		t.Errorf("SealAt, %v: %.20x %d, not %d", b, sealed, code, want)
	}
	noBlockOpening(t, b, want)
}

// blockAsPlain seals b, wants what the plain program makes of it, and opens it.
func blockAsPlain(t *testing.T, b block) {
	t.Helper()
	sealed := sealAt(t, b)
	if sealed != plainSealed(b.boxed()) {
		t.Errorf("SealAt, %v: %.40x", b, sealed)
	}
	blockOpensAs(t, b.with(sealed), b.text)
}

func TestBoundsOfBlocks(t *testing.T) {
	if impl.BoState != 1 || impl.BoBucket != 2 || impl.BoLog != 3 || impl.MaxSeal != 1<<40 {
		t.Error(impl.BoState, impl.BoBucket, impl.BoLog, impl.MaxSeal)
	}
}

func TestKnownNonces(t *testing.T) {
	for _, c := range []struct {
		kind, place, epoch int
		want               string
	}{
		{1, 0, 0, "\x01\x00\x00\x00\x00\x00\x00\x00\x00\x00\x00\x00"},
		{2, 0, 0, "\x02\x00\x00\x00\x00\x00\x00\x00\x00\x00\x00\x00"},
		{3, 0, 0, "\x03\x00\x00\x00\x00\x00\x00\x00\x00\x00\x00\x00"},
		{1, 1, 2, "\x01\x01\x00\x00\x02\x00\x00\x00\x00\x00\x00\x00"},
		{1, 39, 0, "\x01\x27\x00\x00\x00\x00\x00\x00\x00\x00\x00\x00"},
		{1, 0, 255, "\x01\x00\x00\x00\xff\x00\x00\x00\x00\x00\x00\x00"},
		{1, 0, 256, "\x01\x00\x00\x00\x00\x01\x00\x00\x00\x00\x00\x00"},
		{2, 7, 258, "\x02\x07\x00\x00\x02\x01\x00\x00\x00\x00\x00\x00"},
		{2, 7, 65535, "\x02\x07\x00\x00\xff\xff\x00\x00\x00\x00\x00\x00"},
		{2, 7, 65536, "\x02\x07\x00\x00\x00\x00\x01\x00\x00\x00\x00\x00"},
		{2, 7, 0x030201, "\x02\x07\x00\x00\x01\x02\x03\x00\x00\x00\x00\x00"},
		{3, 38, 0x04030201, "\x03\x26\x00\x00\x01\x02\x03\x04\x00\x00\x00\x00"},
		{3, 38, 4294967295, "\x03\x26\x00\x00\xff\xff\xff\xff\x00\x00\x00\x00"},
		{3, 38, 4294967296, "\x03\x26\x00\x00\x00\x00\x00\x00\x01\x00\x00\x00"},
		{3, 38, 0x0504030201, "\x03\x26\x00\x00\x01\x02\x03\x04\x05\x00\x00\x00"},
		{3, 39, 1099511627775, "\x03\x27\x00\x00\xff\xff\xff\xff\xff\x00\x00\x00"},
		{3, 39, 1099511627776, "\x03\x27\x00\x00\x00\x00\x00\x00\x00\x01\x00\x00"},
	} {
		if nonce := nonceOf(t, c.kind, c.place, c.epoch); nonce != c.want {
			t.Errorf("NonceOf %d %d %d: %x", c.kind, c.place, c.epoch, nonce)
		}
	}
}

func TestNoncesOfEachKindPlaceAndEpoch(t *testing.T) {
	seen := map[string]bool{}
	for _, kind := range kinds {
		for place := range impl.Sectors {
			for _, epoch := range epochs {
				nonce := nonceOf(t, kind, place, epoch)
				if nonce != plainNonce(kind, place, epoch) {
					t.Errorf("NonceOf %d %d %d: %x", kind, place, epoch, nonce)
				}
				seen[nonce] = true
			}
		}
	}
	if len(seen) != len(kinds)*impl.Sectors*len(epochs) {
		t.Error("two blocks have one nonce", len(seen))
	}
}

func TestNoncesByChance(t *testing.T) {
	r := rand.New(rand.NewSource(11))
	for range 5000 {
		kind, place, epoch := kinds[r.Intn(3)], r.Intn(impl.Sectors), r.Intn(impl.MaxSeal+1)
		if nonce := nonceOf(t, kind, place, epoch); nonce != plainNonce(kind, place, epoch) {
			t.Errorf("NonceOf %d %d %d: %x", kind, place, epoch, nonce)
		}
	}
}

func TestNumbersThatHaveNoNonce(t *testing.T) {
	for _, kind := range wrongKinds {
		noNonce(t, kind, 0, 0)
		noNonce(t, kind, 39, impl.MaxSeal)
	}
	for _, kind := range kinds {
		for _, place := range wrongPlaces {
			noNonce(t, kind, place, 0)
			noNonce(t, kind, place, impl.MaxSeal)
		}
		for _, epoch := range wrongEpochs {
			noNonce(t, kind, 0, epoch)
			noNonce(t, kind, 39, epoch)
		}
	}
	noNonce(t, 0, -1, 0)
	noNonce(t, 0, 0, -1)
	noNonce(t, 1, 40, -1)
	noNonce(t, 4, 40, impl.MaxSeal+1)
	noNonce(t, math.MinInt, math.MinInt, math.MinInt)
	noNonce(t, math.MaxInt, math.MaxInt, math.MaxInt)
}

// Made by another program of RFC 8439's boxes, with the nonces of chapter 7.
func TestKnownSealedBlocks(t *testing.T) {
	key := "0123456789abcdef0123456789abcdef"
	for _, c := range []struct {
		block
		want string
	}{
		{block{key, impl.BoState, 16, 5, "state"}, "b6feb6985a16c44cde41aa865c2468d1cd0ec96734"},
		{block{key, impl.BoBucket, 0, 0, ""}, "d3719b55669213954f74c9647cb9b8b0"},
		{
			block{key, impl.BoLog, 39, impl.MaxSeal, "the last entry of a log, as late as may be, longer than one block of the stream"},
			"00bf26c32f3ad80d9528626ec210cd51c05845dbc69c268639563db922bdf9c4849904f5d52c39c4b3a23db940eeb6537581c7d774d9a7043df16877e5a7decf5d841cb237cd572becc7bc0726ef49680b919cc7aad5ba9cf7f22b8f94ddf2",
		},
	} {
		if sealed := sealAt(t, c.block); sealed != unhex(t, c.want) {
			t.Errorf("SealAt, %v: %x", c.block, sealed)
		}
		blockOpensAs(t, c.with(unhex(t, c.want)), c.text)
	}
}

func TestBlocksOfEachKindAndLength(t *testing.T) {
	for _, kind := range kinds {
		for _, place := range rightSectors {
			for _, epoch := range epochs {
				for _, size := range blockSize {
					blockAsPlain(t, someBlock(size).at(kind, place, epoch))
				}
			}
		}
		for _, size := range []int{longestSealed - 1, longestSealed} {
			blockAsPlain(t, someBlock(size).at(kind, 0, 0))
			blockAsPlain(t, someBlock(size).at(kind, 39, impl.MaxSeal))
		}
	}
	for n := range 200 {
		blockAsPlain(t, someBlock(n))
	}
}

func TestSealedBlocksByChance(t *testing.T) {
	r := rand.New(rand.NewSource(13))
	for range 1000 {
		all := make([]byte, 32+r.Intn(impl.SectorSize))
		r.Read(all)
		blockAsPlain(t, block{string(all[:32]), kinds[r.Intn(3)], r.Intn(impl.Sectors), r.Intn(impl.MaxSeal + 1), string(all[32:])})
	}
}

func TestBlocksAreBoxes(t *testing.T) {
	for _, size := range append([]int{longestSealed, impl.MaxText}, blockSize...) {
		b := someBlock(size)
		nonce := nonceOf(t, b.kind, b.place, b.epoch)
		if sealed := sealAt(t, b); sealed != sealBox(t, box{b.key, nonce, "block", b.text}) {
			t.Errorf("SealAt, %v: %.40x", b, sealed)
		}
		for _, ad := range []string{"", "bloc", "block\x00", "Block", "blocks"} {
			if size <= longestSealed {
				noBlockOpening(t, b.with(sealBox(t, box{b.key, nonce, ad, b.text})), impl.ErrTag)
			}
		}
	}
}

func TestBlocksElsewhere(t *testing.T) {
	var places []block
	for _, kind := range kinds {
		for _, place := range rightSectors {
			for _, epoch := range []int{0, 1, 256, 4294967296, impl.MaxSeal} {
				places = append(places, someBlock(0).at(kind, place, epoch))
			}
		}
	}
	for _, size := range []int{0, 1, 65} {
		for i, from := range places {
			sealed := sealAt(t, from.with(textOf(size)))
			for j, to := range places {
				if i == j {
					blockOpensAs(t, to.with(sealed), textOf(size))
				} else {
					noBlockOpening(t, to.with(sealed), impl.ErrTag)
				}
			}
		}
	}
}

func TestBlocksUnlikeInOneThing(t *testing.T) {
	for _, size := range append([]int{longestSealed}, blockSize...) {
		b := someBlock(size)
		b.text = sealAt(t, b)
		for _, kind := range []int{impl.BoState, impl.BoLog} {
			noBlockOpening(t, b.at(kind, b.place, b.epoch), impl.ErrTag)
		}
		for place := range impl.Sectors {
			if place != b.place {
				noBlockOpening(t, b.at(b.kind, place, b.epoch), impl.ErrTag)
			}
		}
		for _, epoch := range append([]int{b.epoch - 1, b.epoch + 1, b.epoch + 256, b.epoch + 65536, b.epoch + 1<<32}, epochs...) {
			noBlockOpening(t, b.at(b.kind, b.place, epoch), impl.ErrTag)
		}
		for at := range b.key {
			other := b
			other.key = changedAt(b.key, at, 1<<(at%8))
			noBlockOpening(t, other, impl.ErrTag)
		}
		blockOpensAs(t, b, textOf(size))
	}
}

func TestEachBitOfABlockCounts(t *testing.T) {
	for _, size := range blockSize {
		b := someBlock(size)
		sealed := sealAt(t, b)
		for bit := range 8 * len(sealed) {
			noBlockOpening(t, b.with(changedAt(sealed, bit/8, 1<<(bit%8))), impl.ErrTag)
		}
	}
	b := someBlock(longestSealed)
	sealed := sealAt(t, b)
	for _, at := range []int{0, 63, 64, longestSealed / 2, longestSealed - 1, longestSealed, impl.MaxText - 1} {
		noBlockOpening(t, b.with(changedAt(sealed, at, 255)), impl.ErrTag)
	}
}

func TestBlocksWithBytesGone(t *testing.T) {
	b := someBlock(40)
	sealed := sealAt(t, b)
	for n := range sealed {
		noBlockOpening(t, b.with(sealed[:n]), impl.ErrTag)
		noBlockOpening(t, b.with(sealed[n+1:]), impl.ErrTag)
		noBlockOpening(t, b.with(sealed[:n]+"\x00"+sealed[n:]), impl.ErrTag)
	}
	noBlockOpening(t, b.with(sealed+"\x00"), impl.ErrTag)
}

func TestTextsThatAreTooShortForABlock(t *testing.T) {
	tag := sealAt(t, someBlock(0))
	for n := range impl.TagSize {
		noBlockOpening(t, someBlock(n), impl.ErrTag)
		noBlockOpening(t, someBlock(0).with(tag[:n]), impl.ErrTag)
		noBlockOpening(t, someBlock(0).with(strings.Repeat("\x00", n)), impl.ErrTag)
	}
	noBlockOpening(t, someBlock(16), impl.ErrTag)
	noBlockOpening(t, someBlock(17), impl.ErrTag)
	blockOpensAs(t, someBlock(0).with(tag), "")
}

// MaxText bounds what is handed in: such texts are sealed, and what they are
// sealed as is too long to be opened.
func TestBlocksThatAreTooLongToBeOpened(t *testing.T) {
	for _, size := range []int{longestSealed + 1, longestSealed + 2, impl.MaxText - 1, impl.MaxText} {
		b := someBlock(size)
		sealed := sealAt(t, b)
		if sealed != plainSealed(b.boxed()) {
			t.Errorf("SealAt, %v", b)
		}
		noBlockOpening(t, b.with(sealed), impl.ErrLong)
		noBlockOpening(t, b, impl.ErrTag)
	}
	noBlock(t, someBlock(impl.MaxText+1), impl.ErrLong)
	noBlock(t, someBlock(2*impl.MaxText), impl.ErrLong)
}

func TestKeysThatSealNoBlock(t *testing.T) {
	b := someBlock(30)
	sealed := sealAt(t, b)
	for _, n := range wrongKeys {
		other := b
		other.key = textOf(n)
		noBlock(t, other, impl.ErrSize)
		noBlock(t, other.with(""), impl.ErrSize)
		noBlockOpening(t, other.with(sealed), impl.ErrSize)
	}
	for _, key := range []string{b.key[1:], b.key[:31], b.key + "\x00"} {
		other := b.with(sealed)
		other.key = key
		noBlockOpening(t, other, impl.ErrSize)
	}
	for _, n := range []int{impl.MaxText + 1, 2 * impl.MaxText} {
		other := b
		other.key = textOf(n)
		noBlock(t, other, impl.ErrLong)
	}
}

func TestNumbersThatHaveNoBlock(t *testing.T) {
	sealed := sealAt(t, someBlock(30))
	for _, text := range []string{"", "short", sealed, textOf(impl.MaxText)} {
		b := someBlock(0).with(text)
		for _, kind := range wrongKinds {
			noBlock(t, b.at(kind, b.place, b.epoch), impl.ErrRange)
		}
		for _, place := range wrongPlaces {
			noBlock(t, b.at(b.kind, place, b.epoch), impl.ErrRange)
		}
		for _, epoch := range wrongEpochs {
			noBlock(t, b.at(b.kind, b.place, epoch), impl.ErrRange)
		}
		noBlock(t, b.at(0, -1, -1), impl.ErrRange)
	}
}

// wronglyPlaced has each number wrong, and all of them.
func wronglyPlaced(b block) []block {
	return []block{
		b.at(0, b.place, b.epoch), b.at(4, b.place, b.epoch),
		b.at(b.kind, -1, b.epoch), b.at(b.kind, impl.Sectors, b.epoch),
		b.at(b.kind, b.place, -1), b.at(b.kind, b.place, impl.MaxSeal+1),
		b.at(math.MinInt, math.MinInt, math.MinInt), b.at(math.MaxInt, math.MaxInt, math.MaxInt),
	}
}

func TestWhichCodeOfBlocksIsFirst(t *testing.T) {
	long := textOf(impl.MaxText + 1)
	for _, b := range append(wronglyPlaced(someBlock(30)), someBlock(30)) {
		for _, n := range wrongKeys {
			b.key = textOf(n)
			noBlock(t, b, impl.ErrSize)
			noBlock(t, b.with(""), impl.ErrSize)
			noBlock(t, b.with(textOf(impl.MaxText)), impl.ErrSize)
			noBlock(t, b.with(long), impl.ErrLong)
		}
		b.key = textOf(32)
		noBlock(t, b.with(long), impl.ErrLong)
		b.key = long
		noBlock(t, b, impl.ErrLong)
		noBlock(t, b.with(""), impl.ErrLong)
		noBlock(t, b.with(long), impl.ErrLong)
	}
	for _, b := range wronglyPlaced(someBlock(0)) {
		noBlockOpening(t, b.with(""), impl.ErrRange)
		noBlockOpening(t, b.with(textOf(15)), impl.ErrRange)
		noBlockOpening(t, b.with(textOf(50)), impl.ErrRange)
	}
}

func plainText(list []int) string {
	var out []byte
	for _, word := range list {
		out = binary.LittleEndian.AppendUint32(out, uint32(word))
	}
	return string(out)
}

func wordsByChance(n int) []int {
	r := rand.New(rand.NewSource(int64(n)))
	list := make([]int, n)
	for i := range list {
		list[i] = int(r.Uint32())
	}
	return list
}

func intsText(t *testing.T, list []int) string {
	t.Helper()
	text, code := impl.IntsText(list)
	if code != impl.OK || len(text) != 4*len(list) {
		t.Errorf("IntsText of %d words: %d bytes, %d", len(list), len(text), code)
	}
	return text
}

func textInts(t *testing.T, text string) []int {
	t.Helper()
	list, code := impl.TextInts(text)
	if code != impl.OK || len(list) != len(text)/4 {
		t.Errorf("TextInts of %d bytes: %d words, %d", len(text), len(list), code)
	}
	return list
}

func noIntsText(t *testing.T, list []int, want int) {
	t.Helper()
	if text, code := impl.IntsText(list); text != "" || code != want {
		t.Errorf("IntsText of %d words: %.20x %d, not %d", len(list), text, code, want)
	}
}

func noTextInts(t *testing.T, text string, want int) {
	t.Helper()
	if list, code := impl.TextInts(text); len(list) != 0 || code != want {
		t.Errorf("TextInts of %d bytes: %d words, %d, not %d", len(text), len(list), code, want)
	}
}

// wordsAsPlain reads the words back from their bytes, and the bytes from them.
func wordsAsPlain(t *testing.T, list []int) {
	t.Helper()
	text := intsText(t, list)
	if text != plainText(list) {
		t.Errorf("IntsText of %d words: %.40x", len(list), text)
	}
	if back := textInts(t, text); !slices.Equal(back, list) {
		t.Errorf("TextInts of %d bytes: %.80v", len(text), back)
	}
}

func TestKnownWords(t *testing.T) {
	for _, c := range []struct {
		list []int
		text string
	}{
		{nil, ""},
		{[]int{}, ""},
		{[]int{0}, "\x00\x00\x00\x00"},
		{[]int{1}, "\x01\x00\x00\x00"},
		{[]int{255}, "\xff\x00\x00\x00"},
		{[]int{256}, "\x00\x01\x00\x00"},
		{[]int{65535}, "\xff\xff\x00\x00"},
		{[]int{65536}, "\x00\x00\x01\x00"},
		{[]int{16777216}, "\x00\x00\x00\x01"},
		{[]int{0x04030201}, "\x01\x02\x03\x04"},
		{[]int{2147483648}, "\x00\x00\x00\x80"},
		{[]int{4294967295}, "\xff\xff\xff\xff"},
		{[]int{0, 4294967295, 0x64636261}, "\x00\x00\x00\x00\xff\xff\xff\xffabcd"},
	} {
		if text := intsText(t, c.list); text != c.text {
			t.Errorf("IntsText %v: %x", c.list, text)
		}
		if list := textInts(t, c.text); !slices.Equal(list, c.list) {
			t.Errorf("TextInts %x: %v", c.text, list)
		}
	}
}

func TestWordsAreReadBack(t *testing.T) {
	for n := range 100 {
		wordsAsPlain(t, wordsByChance(n))
	}
	for _, n := range []int{1000, impl.MaxList - 1, impl.MaxList} {
		wordsAsPlain(t, wordsByChance(n))
	}
	for bit := range 32 {
		wordsAsPlain(t, []int{1 << bit, 1<<bit - 1, 4294967295 - 1<<bit})
	}
	wordsAsPlain(t, edgeWords)
}

func TestBytesOfWordsAreReadBack(t *testing.T) {
	for n := 0; n <= 4*impl.MaxList; n += 4 * (1 + n/16) {
		text := textOf(n)
		if back := intsText(t, textInts(t, text)); back != text {
			t.Errorf("IntsText of TextInts of %d bytes: %.40x", n, back)
		}
	}
	text := textOf(4 * impl.MaxList)
	if back := intsText(t, textInts(t, text)); back != text {
		t.Errorf("IntsText of TextInts: %.40x", back)
	}
}

// MaxList bounds what is handed in: a text of more words is read.
func TestWordsOfLongTexts(t *testing.T) {
	for _, n := range []int{4*impl.MaxList + 4, impl.MaxText - 4, impl.MaxText} {
		text := textOf(n)
		list := textInts(t, text)
		if plainText(list) != text {
			t.Errorf("TextInts of %d bytes", n)
		}
		noIntsText(t, list, impl.ErrLong)
	}
	for _, n := range []int{impl.MaxText - 3, impl.MaxText - 2, impl.MaxText - 1} {
		noTextInts(t, textOf(n), impl.ErrForm)
	}
	for _, n := range []int{impl.MaxText + 1, impl.MaxText + 2, impl.MaxText + 4, 2 * impl.MaxText} {
		noTextInts(t, textOf(n), impl.ErrLong)
	}
}

func TestBytesThatAreNoWords(t *testing.T) {
	for n := range 200 {
		if n%4 != 0 {
			noTextInts(t, textOf(n), impl.ErrForm)
			noTextInts(t, strings.Repeat("\x00", n), impl.ErrForm)
		}
	}
}

func TestNumbersThatAreNoWords(t *testing.T) {
	for _, wrong := range wrongWords {
		noIntsText(t, []int{wrong}, impl.ErrRange)
		for at := range 5 {
			list := wordsByChance(5)
			list[at] = wrong
			noIntsText(t, list, impl.ErrRange)
		}
		for _, at := range []int{0, 2000, impl.MaxList - 1} {
			list := wordsByChance(impl.MaxList)
			list[at] = wrong
			noIntsText(t, list, impl.ErrRange)
		}
	}
	noIntsText(t, wrongWords, impl.ErrRange)
}

func TestTooManyWords(t *testing.T) {
	for _, n := range []int{impl.MaxList + 1, impl.MaxList + 4, 2 * impl.MaxList} {
		list := wordsByChance(n)
		noIntsText(t, list, impl.ErrLong)
		for _, at := range []int{0, impl.MaxList - 1, impl.MaxList} {
			list[at] = -1
			noIntsText(t, list, impl.ErrLong)
		}
	}
}

func TestNoListOfWordsIsShared(t *testing.T) {
	for _, list := range [][]int{wordsByChance(9), {1, 2, -1, 4, 5, 6, 7, 8, 9}, {0, 0, 0, 0, 0, 0, 0, 0, 4294967296}} {
		kept := slices.Clone(list)
		for n := range len(list) + 1 {
			impl.IntsText(list[:n])
			impl.IntsText(list[n:])
		}
		if !slices.Equal(list, kept) {
			t.Error("IntsText changed words", list)
		}
	}
	text := textOf(40)
	kept := strings.Clone(text)
	first := textInts(t, text)
	want := slices.Clone(first)
	second := textInts(t, text)
	for i := range first {
		first[i] = -7
	}
	if !slices.Equal(second, want) || !slices.Equal(textInts(t, text), want) || text != kept {
		t.Error("TextInts shares memory", second)
	}
}

func TestNoBlockIsChanged(t *testing.T) {
	b := someBlock(100)
	sealed := sealAt(t, b)
	key, text, kept := strings.Clone(b.key), strings.Clone(b.text), strings.Clone(sealed)
	blockOpensAs(t, b.with(sealed), text)
	noBlockOpening(t, b.with(sealed).at(b.kind, b.place+1, b.epoch), impl.ErrTag)
	noBlockOpening(t, b.with(sealed[1:]), impl.ErrTag)
	noBlock(t, b.at(0, 0, 0), impl.ErrRange)
	if b.key != key || b.text != text || sealed != kept {
		t.Error("changed", b)
	}
	if sealAt(t, b) != kept {
		t.Error("another block", b)
	}
}
