package tests

import (
	"crypto/sha256"
	"encoding"
	"encoding/binary"
	"math"
	"math/rand"
	"strings"
	"testing"

	"loop.example/g00548/impl"
)

var edgeLengths = []int{0, 1, 3, 54, 55, 56, 57, 62, 63, 64, 65, 118, 119, 120, 127, 128, 129, 183, 184, 191, 192, 193, 256, 640, 1000}

func textOf(n int) string {
	out := make([]byte, n)
	rand.New(rand.NewSource(int64(n))).Read(out)
	return string(out)
}

func plainDigest(s string) string {
	d := sha256.Sum256([]byte(s))
	return string(d[:])
}

// libraryState is a state of the library's hash, so that late and odd ones can be compared too.
func libraryState(t *testing.T, h impl.Hash) interface {
	Write([]byte) (int, error)
	Sum([]byte) []byte
} {
	t.Helper()
	state := []byte("sha\x03")
	for _, w := range h.H {
		state = binary.BigEndian.AppendUint32(state, uint32(w))
	}
	state = append(state, h.Buf...)
	state = append(state, make([]byte, 64-len(h.Buf))...)
	state = binary.BigEndian.AppendUint64(state, uint64(h.N))
	library := sha256.New()
	if err := library.(encoding.BinaryUnmarshaler).UnmarshalBinary(state); err != nil {
		t.Fatal(err)
	}
	return library
}

func hashOf(t *testing.T, s string) string {
	t.Helper()
	d, code := impl.HashOf(s)
	if code != impl.OK {
		t.Error("HashOf", len(s), code)
	}
	return d
}

func more(t *testing.T, h impl.Hash, s string) impl.Hash {
	t.Helper()
	x, code := impl.HashMore(h, s)
	if code != impl.OK || !impl.HashOK(x) || x.N != h.N+len(s) {
		t.Error("HashMore", h.N, len(s), code, x.N)
	}
	return x
}

func sum(t *testing.T, h impl.Hash) string {
	t.Helper()
	d, code := impl.HashSum(h)
	if code != impl.OK || len(d) != 32 {
		t.Error("HashSum", h.N, len(d), code)
	}
	return d
}

// hashAt is a right hash to which n bytes came.
func hashAt(n int) impl.Hash {
	h := impl.NewHash()
	h.H[3] = 0
	h.H[5] = 4294967295
	h.N = n
	h.Buf = textOf(n % 64)
	return h
}

func TestNewHash(t *testing.T) {
	want := impl.Hash{H: [8]int{0x6a09e667, 0xbb67ae85, 0x3c6ef372, 0xa54ff53a, 0x510e527f, 0x9b05688c, 0x1f83d9ab, 0x5be0cd19}}
	if h := impl.NewHash(); h != want || !impl.HashOK(h) {
		t.Error(h)
	}
}

func TestKnownDigests(t *testing.T) {
	for s, want := range map[string]string{
		"":    "e3b0c44298fc1c149afbf4c8996fb92427ae41e4649b934ca495991b7852b855",
		"abc": "ba7816bf8f01cfea414140de5dae2223b00361a396177a9cb410ff61f20015ad",
		"abcdbcdecdefdefgefghfghighijhijkijkljklmklmnlmnomnopnopq":                                                         "248d6a61d20638b8e5c026930c3e6039a33ce45964ff2167f6ecedd419db06c1",
		"abcdefghbcdefghicdefghijdefghijkefghijklfghijklmghijklmnhijklmnoijklmnopjklmnopqklmnopqrlmnopqrsmnopqrstnopqrstu": "cf5b16a778af8380036ce59e7b0492370b249b11e8f07a51afac45037afee9d1",
	} {
		if x, code := impl.HexOf(hashOf(t, s)); x != want || code != impl.OK {
			t.Error("HashOf", s, x, code)
		}
	}
}

func TestMillionBytes(t *testing.T) {
	h := impl.NewHash()
	for range 1000 {
		h = more(t, h, strings.Repeat("a", 1000))
	}
	want := "cdc76e5c9914fb9281a1c7e284d73e67f1809a48a497200e046d39ccc7112cd0"
	if x, _ := impl.HexOf(sum(t, h)); x != want {
		t.Error(x)
	}
}

func TestDigestsOfEachLength(t *testing.T) {
	for n := range 700 {
		if s := textOf(n); hashOf(t, s) != plainDigest(s) {
			t.Error("HashOf", n)
		}
	}
	for _, n := range []int{4095, 4096, 4097, 65472, 65527, 65528, impl.MaxText - 1, impl.MaxText} {
		if s := textOf(n); hashOf(t, s) != plainDigest(s) {
			t.Error("HashOf", n)
		}
	}
}

func TestDigestInPieces(t *testing.T) {
	for _, n := range append(edgeLengths, impl.MaxText, 3*impl.MaxText+1) {
		s := textOf(n)
		want := plainDigest(s)
		for _, step := range []int{1, 2, 7, 55, 56, 63, 64, 65, 127, 128, 129, impl.MaxText} {
			h := impl.NewHash()
			for at := 0; at < n; at += step {
				h = more(t, h, s[at:min(n, at+step)])
				if h.Buf != s[h.N/64*64:h.N] {
					t.Fatal("Buf", n, step, h.N)
				}
			}
			if sum(t, h) != want {
				t.Error("pieces of", step, "of", n)
			}
		}
	}
}

func TestDigestInTwoPieces(t *testing.T) {
	s := textOf(200)
	whole := more(t, impl.NewHash(), s)
	for at := range len(s) + 1 {
		if two := more(t, more(t, impl.NewHash(), s[:at]), s[at:]); two != whole {
			t.Error("cut at", at, two, whole)
		}
	}
}

func TestDigestInPiecesByChance(t *testing.T) {
	r := rand.New(rand.NewSource(1))
	for range 200 {
		s := textOf(r.Intn(2000))
		h := impl.NewHash()
		for at := 0; at < len(s); {
			next := min(len(s), at+r.Intn(150))
			h = more(t, h, s[at:next])
			at = next
		}
		if sum(t, h) != plainDigest(s) {
			t.Error("pieces of", len(s))
		}
	}
}

func TestEmptyPiecesChangeNothing(t *testing.T) {
	for _, n := range edgeLengths {
		h := more(t, impl.NewHash(), textOf(n))
		if more(t, h, "") != h {
			t.Error("an empty piece behind", n)
		}
	}
}

func TestSumIsNoEnd(t *testing.T) {
	for _, n := range edgeLengths {
		s := textOf(n)
		h := more(t, impl.NewHash(), s)
		sum(t, h)
		if sum(t, h) != plainDigest(s) || sum(t, more(t, h, "more")) != plainDigest(s+"more") {
			t.Error("a sum ahead of the end of", n)
		}
	}
}

func TestLateHashes(t *testing.T) {
	s := textOf(impl.MaxText)
	for _, n := range []int{64, 119, 536870911, 536870912, 899999999, 900000000} {
		h := hashAt(n)
		for _, size := range []int{0, 1, 64, 100, impl.MaxText} {
			library := libraryState(t, h)
			library.Write([]byte(s[:size]))
			if sum(t, more(t, h, s[:size])) != string(library.Sum(nil)) {
				t.Error("HashMore", n, size)
			}
		}
	}
}

func TestSumsOfLateHashes(t *testing.T) {
	for _, n := range []int{536870911, 536870912, 900000000, 900000001, 900000055, 900000056, 999999991, 999999992, 999999999, 1000000000} {
		h := hashAt(n)
		if !impl.HashOK(h) || sum(t, h) != string(libraryState(t, h).Sum(nil)) {
			t.Error("HashSum", n)
		}
	}
}

func TestFullHashes(t *testing.T) {
	for _, n := range []int{900000001, 900000063, 900000064, 900065536, 999999999, 1000000000} {
		h := hashAt(n)
		for _, s := range []string{"", "a", textOf(64), textOf(impl.MaxText)} {
			if x, code := impl.HashMore(h, s); code != impl.ErrFull || x != h {
				t.Error("HashMore", n, len(s), code, x)
			}
		}
		if x, code := impl.HashMore(h, textOf(impl.MaxText+1)); code != impl.ErrLong || x != (impl.Hash{}) {
			t.Error("HashMore of a long text", n, code, x)
		}
	}
}

func badHashes() []impl.Hash {
	var out []impl.Hash
	for _, n := range []int{-1, -64, math.MinInt, math.MinInt + 1, 1000000001, 1000000064, math.MaxInt - 63, math.MaxInt} {
		h := impl.NewHash()
		h.N = n
		for _, size := range []int{0, 1, 63, 64} {
			h.Buf = textOf(size)
			out = append(out, h)
		}
		h.Buf = textOf((n%64 + 64) % 64)
		out = append(out, h)
	}
	for _, n := range []int{0, 1, 63, 64, 100, 900000000, 900000001, 1000000000} {
		for _, size := range []int{n%64 + 1, n%64 - 1, n%64 + 64, 64, impl.MaxText + n%64} {
			if size >= 0 {
				h := hashAt(n)
				h.Buf = textOf(size)
				out = append(out, h)
			}
		}
	}
	for place := range 8 {
		for _, w := range []int{-1, 4294967296, math.MinInt, math.MaxInt} {
			h := hashAt(5)
			h.H[place] = w
			out = append(out, h)
		}
	}
	return out
}

func TestBadHashes(t *testing.T) {
	for _, h := range badHashes() {
		if impl.HashOK(h) {
			t.Error("HashOK", h.H, len(h.Buf), h.N)
		}
		for _, s := range []string{"", "a", textOf(impl.MaxText)} {
			if x, code := impl.HashMore(h, s); code != impl.ErrBad || x != (impl.Hash{}) {
				t.Error("HashMore", h.H, len(h.Buf), h.N, code, x)
			}
		}
		if x, code := impl.HashMore(h, textOf(impl.MaxText+1)); code != impl.ErrLong || x != (impl.Hash{}) {
			t.Error("HashMore of a long text", h.H, len(h.Buf), h.N, code, x)
		}
		if d, code := impl.HashSum(h); code != impl.ErrBad || d != "" {
			t.Error("HashSum", h.H, len(h.Buf), h.N, code)
		}
	}
}

func TestEdgesOfRightHashes(t *testing.T) {
	for _, n := range []int{0, 1, 63, 64, 65, 899999999, 900000000, 900000001, 999999999, 1000000000} {
		if !impl.HashOK(hashAt(n)) {
			t.Error("HashOK", n)
		}
	}
	for place := range 8 {
		for _, w := range []int{0, 1, 2147483648, 4294967295} {
			h := hashAt(70)
			h.H[place] = w
			if !impl.HashOK(h) || sum(t, h) != string(libraryState(t, h).Sum(nil)) {
				t.Error("HashOK", place, w)
			}
		}
	}
	if !impl.HashOK(impl.Hash{}) {
		t.Error("HashOK of noughts")
	}
}

func TestLongTextsHaveNoDigest(t *testing.T) {
	for _, n := range []int{impl.MaxText + 1, 2 * impl.MaxText} {
		if d, code := impl.HashOf(textOf(n)); d != "" || code != impl.ErrLong {
			t.Error("HashOf", n, code)
		}
		if x, code := impl.HashMore(impl.NewHash(), textOf(n)); x != (impl.Hash{}) || code != impl.ErrLong {
			t.Error("HashMore", n, code)
		}
	}
}
