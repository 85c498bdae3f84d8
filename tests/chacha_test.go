package tests

import (
	"encoding/binary"
	"math"
	"math/bits"
	"math/rand"
	"slices"
	"strings"
	"testing"

	"loop.example/g00548/impl"
)

const maxCount = 1000000000

var (
	edgeWords    = []int{0, 1, 2147483647, 2147483648, 4294967294, 4294967295}
	wrongWords   = []int{-1, 4294967296, -4294967296, 1 << 33, math.MinInt, math.MaxInt}
	rightCounts  = []int{0, 1, 2, 255, 256, 65535, 16777216, maxCount - 1, maxCount}
	wrongCounts  = []int{-1, -2, maxCount + 1, 4294967295, 4294967296, 4294967297, math.MinInt, math.MaxInt}
	wrongKeys    = []int{0, 1, 12, 31, 33, 64, impl.MaxText}
	wrongNonces  = []int{0, 1, 8, 11, 13, 24, 32, impl.MaxText}
	streamedSize = []int{0, 1, 2, 62, 63, 64, 65, 66, 127, 128, 129, 191, 192, 193, 640, 1000, 4096, impl.MaxText - 64, impl.MaxText - 1, impl.MaxText}
)

// plainQuarter mixes the words at four places, step by step as RFC 8439 lists them.
func plainQuarter(w *[16]uint32, a, b, c, d int) {
	w[a] += w[b]
	w[d] = bits.RotateLeft32(w[d]^w[a], 16)
	w[c] += w[d]
	w[b] = bits.RotateLeft32(w[b]^w[c], 12)
	w[a] += w[b]
	w[d] = bits.RotateLeft32(w[d]^w[a], 8)
	w[c] += w[d]
	w[b] = bits.RotateLeft32(w[b]^w[c], 7)
}

func plainBlock(key, nonce string, count int) string {
	begin := binary.LittleEndian.AppendUint32([]byte("expand 32-byte k"+key), uint32(count))
	begin = append(begin, nonce...)
	var first [16]uint32
	for i := range first {
		first[i] = binary.LittleEndian.Uint32(begin[4*i:])
	}
	w := first
	for range 10 {
		plainQuarter(&w, 0, 4, 8, 12)
		plainQuarter(&w, 1, 5, 9, 13)
		plainQuarter(&w, 2, 6, 10, 14)
		plainQuarter(&w, 3, 7, 11, 15)
		plainQuarter(&w, 0, 5, 10, 15)
		plainQuarter(&w, 1, 6, 11, 12)
		plainQuarter(&w, 2, 7, 8, 13)
		plainQuarter(&w, 3, 4, 9, 14)
	}
	var out []byte
	for i := range w {
		out = binary.LittleEndian.AppendUint32(out, w[i]+first[i])
	}
	return string(out)
}

func plainXor(key, nonce string, count int, s string) string {
	out := []byte(s)
	block := ""
	for i := range out {
		if i%64 == 0 {
			block = plainBlock(key, nonce, count+i/64)
		}
		out[i] ^= block[i%64]
	}
	return string(out)
}

func unhex(t *testing.T, digits string) string {
	t.Helper()
	s, code := impl.UnHex(digits)
	if code != impl.OK {
		t.Fatal("UnHex", digits, code)
	}
	return s
}

func chaBlock(t *testing.T, key, nonce string, count int) string {
	t.Helper()
	b, code := impl.ChaBlock(key, nonce, count)
	if code != impl.OK || len(b) != 64 {
		t.Error("ChaBlock", count, len(b), code)
	}
	return b
}

func chaXor(t *testing.T, key, nonce string, count int, s string) string {
	t.Helper()
	x, code := impl.ChaXor(key, nonce, count, s)
	if code != impl.OK || len(x) != len(s) {
		t.Error("ChaXor", count, len(s), len(x), code)
	}
	return x
}

// noStream wants code, and nothing else, of both calls that make the stream.
func noStream(t *testing.T, key, nonce string, count, want int) {
	t.Helper()
	if b, code := impl.ChaBlock(key, nonce, count); b != "" || code != want {
		t.Error("ChaBlock", len(key), len(nonce), count, len(b), code)
	}
	for _, n := range []int{0, 1, 64, 65, impl.MaxText} {
		noXor(t, key, nonce, count, textOf(n), want)
	}
}

func noXor(t *testing.T, key, nonce string, count int, s string, want int) {
	t.Helper()
	if x, code := impl.ChaXor(key, nonce, count, s); x != "" || code != want {
		t.Error("ChaXor", len(key), len(nonce), count, len(s), len(x), code)
	}
}

func countedKey() string {
	out := make([]byte, 32)
	for i := range out {
		out[i] = byte(i)
	}
	return string(out)
}

func TestSizesOfTheStream(t *testing.T) {
	if impl.KeySize != 32 || impl.NonceSize != 12 {
		t.Error(impl.KeySize, impl.NonceSize)
	}
}

func TestKnownQuarterRounds(t *testing.T) {
	for _, c := range []struct{ x, want [4]int }{
		{[4]int{0x11111111, 0x01020304, 0x9b8d6f43, 0x01234567}, [4]int{0xea2a92f4, 0xcb1cf8ce, 0x4581472e, 0x5881c4bb}},
		{[4]int{0x516461b1, 0x2a5f714c, 0x53372767, 0x3d631689}, [4]int{0xbdb886dc, 0xcfacafd2, 0xe46bea80, 0xccc07c79}},
		{[4]int{}, [4]int{}},
	} {
		if x, code := impl.QuarterRound(c.x); x != c.want || code != impl.OK {
			t.Errorf("QuarterRound %x: %x %d", c.x, x, code)
		}
	}
}

func quarterAsPlain(t *testing.T, x [4]int) {
	t.Helper()
	var w [16]uint32
	for i, n := range x {
		w[i] = uint32(n)
	}
	plainQuarter(&w, 0, 1, 2, 3)
	want := [4]int{int(w[0]), int(w[1]), int(w[2]), int(w[3])}
	if got, code := impl.QuarterRound(x); got != want || code != impl.OK {
		t.Errorf("QuarterRound %x: %x %d, not %x", x, got, code, want)
	}
}

func TestQuarterRoundsOfEdgeWords(t *testing.T) {
	for _, a := range edgeWords {
		for _, b := range edgeWords {
			for _, c := range edgeWords {
				for _, d := range edgeWords {
					quarterAsPlain(t, [4]int{a, b, c, d})
				}
			}
		}
	}
}

func TestQuarterRoundsByChance(t *testing.T) {
	r := rand.New(rand.NewSource(3))
	for range 2000 {
		quarterAsPlain(t, [4]int{int(r.Uint32()), int(r.Uint32()), int(r.Uint32()), int(r.Uint32())})
	}
	for place := range 4 {
		for bit := range 32 {
			var x [4]int
			x[place] = 1 << bit
			quarterAsPlain(t, x)
		}
	}
}

func TestQuarterRoundsOfNoWords(t *testing.T) {
	for place := range 4 {
		for _, wrong := range wrongWords {
			for _, others := range slices.Concat(edgeWords, wrongWords) {
				x := [4]int{others, others, others, others}
				x[place] = wrong
				if got, code := impl.QuarterRound(x); got != [4]int{} || code != impl.ErrRange {
					t.Errorf("QuarterRound %x: %x %d", x, got, code)
				}
			}
		}
	}
}

func TestKnownBlocks(t *testing.T) {
	noughts, ones := strings.Repeat("\x00", 32), strings.Repeat("\xff", 32)
	for i, c := range []struct {
		key, nonce string
		count      int
		want       string
	}{
		{countedKey(), unhex(t, "000000090000004a00000000"), 1, "10f1e7e4d13b5915500fdd1fa32071c4c7d1f4c733c068030422aa9ac3d46c4ed2826446079faa0914c2d705d98b02a2b5129cd1de164eb9cbd083e8a2503c4e"},
		{noughts, noughts[:12], 0, "76b8e0ada0f13d90405d6ae55386bd28bdd219b8a08ded1aa836efcc8b770dc7da41597c5157488d7724e03fb8d84a376a43b8f41518a11cc387b669b2ee6586"},
		{noughts, noughts[:12], 1, "9f07e7be5551387a98ba977c732d080dcb0f29a048e3656912c6533e32ee7aed29b721769ce64e43d57133b074d839d531ed1f28510afb45ace10a1f4b794d6f"},
		{ones, ones[:12], maxCount, "a80611e5f88a2e51ce082cd92c9ce5075acb5116fad95cc7e7229b4283338d1696628b21b792b12336f64e3ccf9f5a32b1bc7b2c077b455f0457fbdf793445b6"},
	} {
		if b := chaBlock(t, c.key, c.nonce, c.count); b != unhex(t, c.want) {
			t.Errorf("ChaBlock %d: %x", i, b)
		}
	}
}

func TestKnownXors(t *testing.T) {
	text := "Ladies and Gentlemen of the class of '99: If I could offer you only one tip for the future, sunscreen would be it."
	want := unhex(t, "6e2e359a2568f98041ba0728dd0d6981e97e7aec1d4360c20a27afccfd9fae0bf91b65c5524733ab8f593dabcd62b3571639d624e65152ab8f530c359f0861d807ca0dbf500d6a6156a38e088a22b65e52bc514d16ccf806818ce91ab77937365af90bbf74a35be6b40b8eedf2785e42874d")
	if x := chaXor(t, countedKey(), unhex(t, "000000000000004a00000000"), 1, text); x != want {
		t.Errorf("ChaXor: %x", x)
	}
}

// The digests are of what another program of the stream answers.
func TestKnownLongXors(t *testing.T) {
	long := make([]byte, impl.MaxText)
	for i := range long {
		long[i] = byte(7*i + i/256)
	}
	for count, want := range map[int]string{
		0:        "6f2db51b22dbef4d3768f709cf8b73e2e63415970f2fdb6b1390bdd9947c2e1a",
		1:        "de070163dd671a12b58d11fc26a54f26d146741f82f2969dc83e9bd8e15f73dd",
		maxCount: "051a72c3eb5ee6de2cd2e9e924f27a28b3f47a80e152e1a56f96af3397465f6e",
	} {
		if x := chaXor(t, countedKey(), "defghijklmno", count, string(long)); plainDigest(x) != unhex(t, want) {
			t.Errorf("ChaXor from %d on: %x", count, plainDigest(x))
		}
	}
}

func TestBlocksByChance(t *testing.T) {
	r := rand.New(rand.NewSource(4))
	for range 300 {
		all := make([]byte, 44)
		r.Read(all)
		key, nonce, count := string(all[:32]), string(all[32:]), r.Intn(maxCount+1)
		if chaBlock(t, key, nonce, count) != plainBlock(key, nonce, count) {
			t.Errorf("ChaBlock %x %x %d", key, nonce, count)
		}
	}
}

func TestEachBitCounts(t *testing.T) {
	key, nonce := textOf(32), textOf(12)
	seen := map[string]bool{chaBlock(t, key, nonce, 0): true}
	look := func(key, nonce string, count int) {
		b := chaBlock(t, key, nonce, count)
		if seen[b] || b != plainBlock(key, nonce, count) {
			t.Errorf("ChaBlock %x %x %d", key, nonce, count)
		}
		seen[b] = true
	}
	for bit := range 8 * 44 {
		changed := []byte(key + nonce)
		changed[bit/8] ^= 1 << (bit % 8)
		look(string(changed[:32]), string(changed[32:]), 0)
	}
	for bit := range 30 {
		look(key, nonce, 1<<bit)
	}
}

func TestCountsOfTheStream(t *testing.T) {
	key, nonce, s := textOf(32), textOf(12), textOf(200)
	for _, count := range rightCounts {
		if chaBlock(t, key, nonce, count) != plainBlock(key, nonce, count) {
			t.Error("ChaBlock", count)
		}
		if chaXor(t, key, nonce, count, s) != plainXor(key, nonce, count, s) {
			t.Error("ChaXor", count)
		}
		if x := chaXor(t, key, nonce, count, ""); x != "" {
			t.Errorf("ChaXor of no text: %q", x)
		}
	}
	for _, count := range wrongCounts {
		noStream(t, key, nonce, count, impl.ErrRange)
	}
}

func TestXorsOfEachLength(t *testing.T) {
	key, nonce := textOf(32), textOf(12)
	for _, n := range streamedSize {
		for _, count := range []int{0, 7, maxCount - 1, maxCount} {
			if s := textOf(n); chaXor(t, key, nonce, count, s) != plainXor(key, nonce, count, s) {
				t.Error("ChaXor", n, count)
			}
		}
	}
	for n := range 300 {
		if s := textOf(n); chaXor(t, key, nonce, 3, s) != plainXor(key, nonce, 3, s) {
			t.Error("ChaXor", n)
		}
	}
}

func TestNoughtsShowTheBlocks(t *testing.T) {
	key, nonce := textOf(32), textOf(12)
	for _, count := range []int{0, 1, maxCount - 2} {
		blocks := chaBlock(t, key, nonce, count) + chaBlock(t, key, nonce, count+1) + chaBlock(t, key, nonce, count+2)
		for n := range len(blocks) + 1 {
			if x := chaXor(t, key, nonce, count, strings.Repeat("\x00", n)); x != blocks[:n] {
				t.Error("ChaXor", count, n)
			}
		}
	}
}

func TestXoredTwiceIsWhatItWas(t *testing.T) {
	for _, n := range streamedSize {
		s := textOf(n)
		for _, count := range rightCounts {
			key, nonce := textOf(33 + n)[1:33], textOf(13 + n)[1:13]
			x := chaXor(t, key, nonce, count, s)
			if n >= 32 && x == s {
				t.Error("xored once it is the same", n, count)
			}
			if chaXor(t, key, nonce, count, x) != s {
				t.Error("xored twice", n, count)
			}
		}
	}
}

func TestXorsInPieces(t *testing.T) {
	key, nonce, s := textOf(32), textOf(12), textOf(1000)
	whole := chaXor(t, key, nonce, 5, s)
	for at := 0; at < len(s); at += 64 {
		if chaXor(t, key, nonce, 5, s[:at])+chaXor(t, key, nonce, 5+at/64, s[at:]) != whole {
			t.Error("cut at", at)
		}
	}
	for n := range len(s) {
		if chaXor(t, key, nonce, 5, s[:n]) != whole[:n] {
			t.Error("the beginning of", n)
		}
	}
}

func TestWrongSizesOfTheStream(t *testing.T) {
	key, nonce := textOf(32), textOf(12)
	for _, n := range wrongKeys {
		noStream(t, textOf(n), nonce, 0, impl.ErrSize)
	}
	for _, n := range wrongNonces {
		noStream(t, key, textOf(n), 0, impl.ErrSize)
	}
	noStream(t, nonce, key, 0, impl.ErrSize)
	noStream(t, textOf(31), textOf(13), 0, impl.ErrSize)
}

func TestWhichCodeOfTheStreamIsFirst(t *testing.T) {
	key, nonce, long := textOf(32), textOf(12), textOf(impl.MaxText+1)
	for _, count := range wrongCounts {
		noStream(t, key[1:], nonce, count, impl.ErrSize)
		noStream(t, key, nonce+"x", count, impl.ErrSize)
		noStream(t, "", "", count, impl.ErrSize)
	}
	for _, count := range append([]int{0, maxCount}, wrongCounts...) {
		for _, keyLike := range []string{key, "", key[1:], key + "x", long} {
			for _, nonceLike := range []string{nonce, "", nonce[1:], nonce + "x", long} {
				noStream(t, long, nonceLike, count, impl.ErrLong)
				noStream(t, keyLike, long, count, impl.ErrLong)
				noXor(t, keyLike, nonceLike, count, long, impl.ErrLong)
			}
		}
	}
	noXor(t, key, nonce, 0, textOf(2*impl.MaxText), impl.ErrLong)
}

func TestXorOfAllBytes(t *testing.T) {
	a, b, want := make([]byte, 65536), make([]byte, 65536), make([]byte, 65536)
	for i := range want {
		a[i], b[i] = byte(i/256), byte(i)
		want[i] = byte(i/256 ^ i)
	}
	if x, code := impl.XorOf(string(a), string(b)); x != string(want) || code != impl.OK {
		t.Error("XorOf", len(x), code)
	}
}

func TestXorOfTexts(t *testing.T) {
	for _, n := range streamedSize {
		a, b := textOf(n + 1)[1:], textOf(n)
		x, code := impl.XorOf(a, b)
		if code != impl.OK || len(x) != n {
			t.Error("XorOf", n, len(x), code)
		}
		if y, code := impl.XorOf(x, b); y != a || code != impl.OK {
			t.Error("XorOf twice", n, code)
		}
		if y, code := impl.XorOf(b, a); y != x || code != impl.OK {
			t.Error("XorOf the other way", n, code)
		}
		if y, code := impl.XorOf(a, a); y != strings.Repeat("\x00", n) || code != impl.OK {
			t.Error("XorOf with itself", n, code)
		}
	}
}

func TestXorOfOtherLengths(t *testing.T) {
	sizes := []int{0, 1, 2, 63, 64, 65, impl.MaxText - 1, impl.MaxText, impl.MaxText + 1, 2 * impl.MaxText}
	for _, n := range sizes {
		for _, m := range sizes {
			want := impl.OK
			if n > impl.MaxText || m > impl.MaxText {
				want = impl.ErrLong
			} else if n != m {
				want = impl.ErrSize
			}
			x, code := impl.XorOf(textOf(n), textOf(m))
			if code != want || want != impl.OK && x != "" {
				t.Error("XorOf", n, m, len(x), code)
			}
		}
	}
}
