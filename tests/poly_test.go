package tests

import (
	"math/big"
	"math/rand"
	"slices"
	"strings"
	"testing"

	"loop.example/g00548/impl"
)

var (
	noughts16  = strings.Repeat("\x00", 16)
	highest16  = strings.Repeat("\xff", 16)
	taggedSize = []int{0, 1, 2, 14, 15, 16, 17, 18, 31, 32, 33, 47, 48, 49, 63, 64, 65, 255, 256, 257, 1000, 4096, impl.MaxText - 17, impl.MaxText - 16, impl.MaxText - 15, impl.MaxText - 1, impl.MaxText}
)

// plainNumber is the number whose bytes these are, the lowest first.
func plainNumber(s string) *big.Int {
	highestFirst := []byte(s)
	slices.Reverse(highestFirst)
	return new(big.Int).SetBytes(highestFirst)
}

// plainBytes are the lowest sixteen bytes of n, the lowest first.
func plainBytes(n *big.Int) string {
	out := make([]byte, 16)
	new(big.Int).Mod(n, new(big.Int).Lsh(big.NewInt(1), 128)).FillBytes(out)
	slices.Reverse(out)
	return string(out)
}

func plainModulus() *big.Int {
	p := new(big.Int).Lsh(big.NewInt(1), 130)
	return p.Sub(p, big.NewInt(5))
}

func plainClamp(key string) string {
	mask := "\xff\xff\xff\x0f\xfc\xff\xff\x0f\xfc\xff\xff\x0f\xfc\xff\xff\x0f"
	out := []byte(key[:16])
	for i := range out {
		out[i] &= mask[i]
	}
	return string(out)
}

func plainTag(key, s string) string {
	factor, modulus, h := plainNumber(plainClamp(key)), plainModulus(), new(big.Int)
	for piece := range slices.Chunk([]byte(s), 16) {
		h.Add(h, plainNumber(string(piece)+"\x01"))
		h.Mul(h, factor)
		h.Mod(h, modulus)
	}
	return plainBytes(h.Add(h, plainNumber(key[16:])))
}

func polyTag(t *testing.T, key, s string) string {
	t.Helper()
	tag, code := impl.PolyTag(key, s)
	if code != impl.OK || len(tag) != 16 {
		t.Errorf("PolyTag %x, %d bytes: %x %d", key, len(s), tag, code)
	}
	return tag
}

func tagAsPlain(t *testing.T, key, s string) {
	t.Helper()
	if tag := polyTag(t, key, s); tag != plainTag(key, s) {
		t.Errorf("PolyTag %x, %d bytes, %.40x: %x, not %x", key, len(s), s, tag, plainTag(key, s))
	}
}

func noTag(t *testing.T, key, s string, want int) {
	t.Helper()
	if tag, code := impl.PolyTag(key, s); tag != "" || code != want {
		t.Errorf("PolyTag, key of %d, text of %d: %x %d, not %d", len(key), len(s), tag, code, want)
	}
}

func noClamp(t *testing.T, key string, want int) {
	t.Helper()
	if x, code := impl.ClampKey(key); x != "" || code != want {
		t.Errorf("ClampKey of %d: %x %d, not %d", len(key), x, code, want)
	}
}

// keyTimes is a key that multiplies by a small number, and adds last.
func keyTimes(factor byte, last string) string {
	return string([]byte{factor}) + noughts16[1:] + last
}

func TestSizeOfTags(t *testing.T) {
	if impl.TagSize != 16 {
		t.Error(impl.TagSize)
	}
}

func TestKnownClampedKeys(t *testing.T) {
	key := "85d6be7857556d337f4452fe42d506a80103808afb0db2fd4abff6af4149f51b"
	for key, want := range map[string]string{
		key:                      "85d6be0854556d037c44520e40d50608",
		strings.Repeat("00", 32): strings.Repeat("00", 16),
		strings.Repeat("ff", 32): "ffffff0ffcffff0ffcffff0ffcffff0f",
		strings.Repeat("f0", 32): "f0f0f000f0f0f000f0f0f000f0f0f000",
		strings.Repeat("03", 32): "03030303000303030003030300030303",
		key[:32] + key[:32]:      "85d6be0854556d037c44520e40d50608",
		"85d6be0854556d037c44520e40d50608" + key[:32]: "85d6be0854556d037c44520e40d50608",
	} {
		if x, code := impl.ClampKey(unhex(t, key)); x != unhex(t, want) || code != impl.OK {
			t.Errorf("ClampKey %s: %x %d", key, x, code)
		}
	}
}

func TestClampedKeysBitByBit(t *testing.T) {
	for bit := range 8 * 32 {
		one := make([]byte, 32)
		one[bit/8] = 1 << (bit % 8)
		if x, code := impl.ClampKey(string(one)); x != plainClamp(string(one)) || code != impl.OK {
			t.Errorf("ClampKey of bit %d: %x %d", bit, x, code)
		}
	}
	for n := range 100 {
		key := textOf(n + 32)[n:]
		if x, code := impl.ClampKey(key); x != plainClamp(key) || code != impl.OK {
			t.Errorf("ClampKey %x: %x %d", key, x, code)
		}
	}
}

func TestWrongKeysOfTags(t *testing.T) {
	for _, n := range append([]int{15, 16, 17}, wrongKeys...) {
		noClamp(t, textOf(n), impl.ErrSize)
		for _, size := range taggedSize {
			noTag(t, textOf(n), textOf(size), impl.ErrSize)
		}
	}
}

func TestWhichCodeOfTagsIsFirst(t *testing.T) {
	for _, n := range []int{impl.MaxText + 1, impl.MaxText + 32, 2 * impl.MaxText} {
		long := textOf(n)
		noClamp(t, long, impl.ErrLong)
		for _, size := range []int{0, 1, 16, impl.MaxText, impl.MaxText + 1} {
			noTag(t, long, textOf(size), impl.ErrLong)
		}
		for _, size := range append([]int{32, impl.MaxText + 1}, wrongKeys...) {
			noTag(t, textOf(size), long, impl.ErrLong)
		}
	}
}

// The tags of RFC 8439, chapter 2.5.2 and appendix A.3.
func TestKnownTags(t *testing.T) {
	ietf := "Any submission to the IETF intended by the Contributor for publication as all or part of an IETF Internet-Draft or RFC and any statement made within the context of an IETF activity is considered an \"IETF Contribution\". Such statements include oral statements in IETF sessions, as well as written and electronic communications made at any time or place, which are addressed to"
	toves := "'Twas brillig, and the slithy toves\nDid gyre and gimble in the wabe:\nAll mimsy were the borogoves,\nAnd the mome raths outgrabe."
	half := unhex(t, "36e5f6b5c5e06070f0efca96227a863e")
	wide := unhex(t, "01000000000000000400000000000000") + noughts16
	pieces := unhex(t, "e33594d7505e43b900000000000000003394d7505e4379cd01000000000000000000000000000000000000000000000001000000000000000000000000000000")
	for i, c := range []struct{ key, text, want string }{
		{unhex(t, "85d6be7857556d337f4452fe42d506a80103808afb0db2fd4abff6af4149f51b"), "Cryptographic Forum Research Group", "a8061dc1305136c6c22b8baf0c0127a9"},
		{noughts16 + noughts16, strings.Repeat("\x00", 64), "00000000000000000000000000000000"},
		{noughts16 + half, ietf, "36e5f6b5c5e06070f0efca96227a863e"},
		{half + noughts16, ietf, "f3477e7cd95417af89a6b8794c310cf0"},
		{unhex(t, "1c9240a5eb55d38af333888604f6b5f0473917c1402b80099dca5cbc207075c0"), toves, "4541669a7eaaee61e708dc7cbcc5eb62"},
		{keyTimes(2, noughts16), highest16, "03000000000000000000000000000000"},
		{keyTimes(2, highest16), "\x02" + noughts16[1:], "03000000000000000000000000000000"},
		{keyTimes(1, noughts16), highest16 + "\xf0" + highest16[1:] + "\x11" + noughts16[1:], "05000000000000000000000000000000"},
		{keyTimes(1, noughts16), highest16 + "\xfb" + strings.Repeat("\xfe", 15) + strings.Repeat("\x01", 16), "00000000000000000000000000000000"},
		{keyTimes(2, noughts16), "\xfd" + highest16[1:], "faffffffffffffffffffffffffffffff"},
		{wide, pieces, "14000000000000005500000000000000"},
		{wide, pieces[:48], "13000000000000000000000000000000"},
	} {
		if tag := polyTag(t, c.key, c.text); tag != unhex(t, c.want) {
			t.Errorf("PolyTag %d: %x", i, tag)
		}
	}
}

func TestTagsOfNoText(t *testing.T) {
	for _, key := range []string{textOf(32), textOf(64)[32:], noughts16 + highest16, highest16 + noughts16, highest16 + highest16} {
		if tag := polyTag(t, key, ""); tag != key[16:] {
			t.Errorf("PolyTag %x: %x", key, tag)
		}
	}
}

func TestTagsOfEachLength(t *testing.T) {
	noughts, highest := noughts16+noughts16, highest16+highest16
	for _, key := range []string{textOf(32), highest, noughts, noughts16 + highest16, highest16 + noughts16, keyTimes(1, noughts16)} {
		for _, n := range taggedSize {
			for _, s := range []string{textOf(n), strings.Repeat("\x00", n), strings.Repeat("\xff", n)} {
				tagAsPlain(t, key, s)
			}
		}
		for n := range 300 {
			tagAsPlain(t, key, textOf(n))
		}
	}
}

// A byte 1 behind the last bytes tells a text from one with noughts behind it.
func TestNoughtsBehindATextCount(t *testing.T) {
	for _, n := range []int{0, 1, 14, 15, 16, 17, 31, 32, 33} {
		seen := map[string]bool{}
		for more := range 40 {
			s := textOf(n) + strings.Repeat("\x00", more)
			tagAsPlain(t, textOf(32), s)
			seen[polyTag(t, textOf(32), s)] = true
		}
		if len(seen) != 40 {
			t.Error("PolyTag with noughts behind", n, len(seen))
		}
	}
}

// twoPieces are two sixteens that are, each with its byte 1, together the
// modulus and more.
func twoPieces(more int64) string {
	rest := plainModulus()
	rest.Add(rest, big.NewInt(more))
	rest.Sub(rest, plainNumber(highest16+"\x01"))
	rest.Sub(rest, plainNumber(noughts16+"\x01"))
	return highest16 + plainBytes(rest)
}

func TestSumsAroundTheModulus(t *testing.T) {
	for more, want := range map[int64]string{
		-6: "\xf5", -2: "\xf9", -1: "\xfa", 0: "\x00", 1: "\x01", 2: "\x02", 3: "\x03",
	} {
		behind := noughts16[1:]
		if more < 0 {
			behind = highest16[1:]
		}
		if tag := polyTag(t, keyTimes(1, noughts16), twoPieces(more)); tag != want+behind {
			t.Errorf("the modulus and %d: %x", more, tag)
		}
	}
	if twoPieces(3) != highest16+highest16 {
		t.Error("the highest two pieces")
	}
}

func TestLastSumsAbove128Bits(t *testing.T) {
	// One below the modulus and the highest last bytes: above 130 bits too,
	// where nothing is brought back in.
	if tag := polyTag(t, keyTimes(1, highest16), twoPieces(-1)); tag != "\xf9"+highest16[1:] {
		t.Errorf("one below the modulus: %x", tag)
	}
	if tag := polyTag(t, keyTimes(1, highest16), twoPieces(0)); tag != highest16 {
		t.Errorf("the modulus: %x", tag)
	}
	if tag := polyTag(t, keyTimes(1, highest16), twoPieces(1)); tag != noughts16 {
		t.Errorf("one above the modulus: %x", tag)
	}
	for more := int64(-300); more <= 3; more++ {
		for _, last := range []string{noughts16, "\x01" + noughts16[1:], "\x06" + noughts16[1:], "\xfa" + highest16[1:], highest16[1:] + "\x00", noughts16[1:] + "\x80", highest16} {
			tagAsPlain(t, keyTimes(1, last), twoPieces(more))
			tagAsPlain(t, keyTimes(1, last), twoPieces(more)+textOf(7))
			tagAsPlain(t, keyTimes(2, last), twoPieces(more))
		}
	}
}

func TestTagsOfHighAndLowBytes(t *testing.T) {
	r := rand.New(rand.NewSource(5))
	some := func(n int) string {
		out := make([]byte, n)
		for i := range out {
			out[i] = "\x00\x00\x01\x03\x04\x7f\x80\xfb\xfc\xff\xff\xff"[r.Intn(12)]
		}
		return string(out)
	}
	for range 3000 {
		tagAsPlain(t, some(32), some(r.Intn(100)))
	}
}

func TestTagsByChance(t *testing.T) {
	r := rand.New(rand.NewSource(6))
	for range 2000 {
		all := make([]byte, 32+r.Intn(200))
		r.Read(all)
		tagAsPlain(t, string(all[:32]), string(all[32:]))
	}
}

func TestEachBitOfATaggedTextCounts(t *testing.T) {
	key := textOf(32)
	for _, n := range []int{1, 15, 16, 17, 40} {
		s := textOf(n)
		tag := polyTag(t, key, s)
		for bit := range 8 * n {
			changed := []byte(s)
			changed[bit/8] ^= 1 << (bit % 8)
			tagAsPlain(t, key, string(changed))
			if impl.TagEqual(polyTag(t, key, string(changed)), tag) {
				t.Error("bit", bit, "of", n)
			}
		}
	}
}

func sameTags(t *testing.T, a, b string, want bool) {
	t.Helper()
	if impl.TagEqual(a, b) != want || impl.TagEqual(b, a) != want {
		t.Errorf("TagEqual of %d and %d bytes, %.20x and %.20x: not %v", len(a), len(b), a, b, want)
	}
}

func TestTagsWithAllBytesAlikeAreEqual(t *testing.T) {
	for _, n := range taggedSize {
		for _, s := range []string{textOf(n), strings.Repeat("\x00", n), strings.Repeat("\xff", n)} {
			sameTags(t, s, strings.Clone(s), true)
			sameTags(t, s, s, true)
		}
	}
}

func TestTagsThatDifferInOneBit(t *testing.T) {
	for _, n := range []int{1, 2, 15, 16, 17, 33} {
		for _, s := range []string{textOf(n), strings.Repeat("\x00", n), strings.Repeat("\xff", n)} {
			for bit := range 8 * n {
				other := []byte(s)
				other[bit/8] ^= 1 << (bit % 8)
				sameTags(t, s, string(other), false)
			}
		}
	}
	for _, at := range []int{0, 1, 255, 256, impl.MaxText / 2, impl.MaxText - 2, impl.MaxText - 1} {
		other := []byte(textOf(impl.MaxText))
		other[at] ^= 128
		sameTags(t, textOf(impl.MaxText), string(other), false)
	}
}

func TestTagsThatDifferInOneByte(t *testing.T) {
	tag := textOf(16)
	for place := range 16 {
		for by := 1; by < 256; by++ {
			other := []byte(tag)
			other[place] ^= byte(by)
			sameTags(t, tag, string(other), false)
		}
	}
}

// What two bytes differ by must not make up for each other.
func TestTagsThatDifferInTwoBytes(t *testing.T) {
	tag := textOf(16)
	for first := range 16 {
		for second := range first {
			for bit := range 8 {
				other := []byte(tag)
				other[first] ^= 1 << bit
				other[second] ^= 1 << bit
				sameTags(t, tag, string(other), false)
			}
			swapped := []byte(tag)
			swapped[first], swapped[second] = swapped[second], swapped[first]
			sameTags(t, tag, string(swapped), string(swapped) == tag)
			moved := []byte(tag)
			moved[first]++
			moved[second]--
			sameTags(t, tag, string(moved), false)
		}
	}
	all := []byte(tag)
	for i := range all {
		all[i] ^= 255
	}
	sameTags(t, tag, string(all), false)
}

func TestTagsOfOtherLengths(t *testing.T) {
	s := textOf(300)
	for _, n := range []int{0, 1, 2, 15, 16, 17, 32, 255, 256, 257, 300} {
		for m := range 301 {
			sameTags(t, s[:n], s[:m], n == m)
			sameTags(t, s[:n], s[300-m:], n == m && s[:n] == s[300-m:])
			sameTags(t, strings.Repeat("\x00", n), strings.Repeat("\x00", m), n == m)
		}
	}
	sameTags(t, textOf(impl.MaxText), textOf(impl.MaxText)[1:], false)
}

// Chapter 1: a call without a code answers zero to texts that are too long.
func TestLongTextsAreNoTags(t *testing.T) {
	for _, n := range []int{impl.MaxText + 1, 2 * impl.MaxText} {
		sameTags(t, textOf(n), textOf(n), false)
		for _, other := range []string{"", textOf(16), textOf(n)[:impl.MaxText], textOf(n)[1:], textOf(n) + "x"} {
			sameTags(t, textOf(n), other, false)
		}
	}
}
