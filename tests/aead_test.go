package tests

import (
	"encoding/binary"
	"fmt"
	"math/rand"
	"strings"
	"testing"

	"loop.example/g00548/impl"
)

const longestSealed = impl.MaxText - impl.TagSize

var boxedSize = []int{0, 1, 2, 14, 15, 16, 17, 18, 31, 32, 33, 47, 48, 49, 63, 64, 65, 79, 80, 81, 127, 128, 129, 255, 256, 257, 1000}

// box is what the three calls are handed.
type box struct{ key, nonce, ad, text string }

func (b box) String() string {
	return fmt.Sprintf("key of %d, nonce of %d, words beside of %d, text of %d, %.20x", len(b.key), len(b.nonce), len(b.ad), len(b.text), b.text)
}

func (b box) with(text string) box {
	b.text = text
	return b
}

func plainBoxTag(b box) string {
	fill := func(s string) string {
		for len(s)%16 != 0 {
			s += "\x00"
		}
		return s
	}
	tagged := []byte(fill(b.ad) + fill(b.text))
	tagged = binary.LittleEndian.AppendUint64(tagged, uint64(len(b.ad)))
	tagged = binary.LittleEndian.AppendUint64(tagged, uint64(len(b.text)))
	return plainTag(plainBlock(b.key, b.nonce, 0)[:32], string(tagged))
}

func plainSealed(b box) string {
	hidden := plainXor(b.key, b.nonce, 1, b.text)
	return hidden + plainBoxTag(b.with(hidden))
}

func boxTag(t *testing.T, b box) string {
	t.Helper()
	tag, code := impl.BoxTag(b.key, b.nonce, b.ad, b.text)
	if code != impl.OK || len(tag) != 16 {
		t.Errorf("BoxTag, %v: %x %d", b, tag, code)
	}
	return tag
}

func sealBox(t *testing.T, b box) string {
	t.Helper()
	sealed, code := impl.SealBox(b.key, b.nonce, b.ad, b.text)
	if code != impl.OK || len(sealed) != len(b.text)+16 {
		t.Errorf("SealBox, %v: %d bytes, %d", b, len(sealed), code)
	}
	return sealed
}

func opensAs(t *testing.T, b box, want string) {
	t.Helper()
	if text, code := impl.OpenBox(b.key, b.nonce, b.ad, b.text); text != want || code != impl.OK {
		t.Errorf("OpenBox, %v: %.20x %d", b, text, code)
	}
}

func noOpening(t *testing.T, b box, want int) {
	t.Helper()
	if text, code := impl.OpenBox(b.key, b.nonce, b.ad, b.text); text != "" || code != want {
		t.Errorf("OpenBox, %v: %.20x %d, not %d", b, text, code, want)
	}
}

// noBox wants code, and nothing else, of all three calls.
func noBox(t *testing.T, b box, want int) {
	t.Helper()
	if tag, code := impl.BoxTag(b.key, b.nonce, b.ad, b.text); tag != "" || code != want {
		t.Errorf("BoxTag, %v: %x %d, not %d", b, tag, code, want)
	}
	if sealed, code := impl.SealBox(b.key, b.nonce, b.ad, b.text); sealed != "" || code != want {
		t.Errorf("SealBox, %v: %.20x %d, not %d", b, sealed, code, want)
	}
	noOpening(t, b, want)
}

// boxAsPlain seals b, wants what the plain program makes of it, and opens it.
func boxAsPlain(t *testing.T, b box) {
	t.Helper()
	sealed := sealBox(t, b)
	if sealed != plainSealed(b) {
		t.Errorf("SealBox, %v: %.40x", b, sealed)
	}
	if tag := boxTag(t, b); tag != plainBoxTag(b) {
		t.Errorf("BoxTag, %v: %x", b, tag)
	}
	opensAs(t, b.with(sealed), b.text)
}

func someBox(adSize, textSize int) box {
	return box{textOf(32), textOf(12), textOf(adSize + 1)[1:], textOf(textSize)}
}

func changedAt(s string, at int, by byte) string {
	out := []byte(s)
	out[at] ^= by
	return string(out)
}

// The boxes of RFC 8439, chapter 2.8.2 and appendix A.5.
func TestKnownBoxes(t *testing.T) {
	drafts := "Internet-Drafts are draft documents valid for a maximum of six months and may be updated, replaced, or obsoleted by other documents at any time. It is inappropriate to use Internet-Drafts as reference material or to cite them other than as /\xe2\x80\x9cwork in progress./\xe2\x80\x9d"
	for i, c := range []struct {
		key, nonce, ad, text, hidden, tag string
	}{
		{
			"808182838485868788898a8b8c8d8e8f909192939495969798999a9b9c9d9e9f", "070000004041424344454647", "50515253c0c1c2c3c4c5c6c7",
			"Ladies and Gentlemen of the class of '99: If I could offer you only one tip for the future, sunscreen would be it.",
			"d31a8d34648e60db7b86afbc53ef7ec2a4aded51296e08fea9e2b5a736ee62d63dbea45e8ca9671282fafb69da92728b1a71de0a9e060b2905d6a5b67ecd3b3692ddbd7f2d778b8c9803aee328091b58fab324e4fad675945585808b4831d7bc3ff4def08e4b7a9de576d26586cec64b6116",
			"1ae10b594f09e26a7e902ecbd0600691",
		},
		{
			"1c9240a5eb55d38af333888604f6b5f0473917c1402b80099dca5cbc207075c0", "000000000102030405060708", "f33388860000000000004e91",
			drafts,
			"64a0861575861af460f062c79be643bd5e805cfd345cf389f108670ac76c8cb24c6cfc18755d43eea09ee94e382d26b0bdb7b73c321b0100d4f03b7f355894cf332f830e710b97ce98c8a84abd0b948114ad176e008d33bd60f982b1ff37c8559797a06ef4f0ef61c186324e2b3506383606907b6a7c02b0f9f6157b53c867e4b9166c767b804d46a59b5216cde7a4e99040c5a40433225ee282a1b0a06c523eaf4534d7f83fa1155b0047718cbc546a0d072b04b3564eea1b422273f548271a0bb2316053fa76991955ebd63159434ecebb4e466dae5a1073a6727627097a1049e617d91d361094fa68f0ff77987130305beaba2eda04df997b714d6c6f2c29a6ad5cb4022b02709b",
			"eead9d67890cbb22392336fea1851f38",
		},
	} {
		b := box{unhex(t, c.key), unhex(t, c.nonce), unhex(t, c.ad), c.text}
		hidden, tag := unhex(t, c.hidden), unhex(t, c.tag)
		if x := boxTag(t, b.with(hidden)); x != tag {
			t.Errorf("BoxTag %d: %x", i, x)
		}
		if x := sealBox(t, b); x != hidden+tag {
			t.Errorf("SealBox %d: %x", i, x)
		}
		opensAs(t, b.with(hidden+tag), c.text)
	}
}

func TestBoxesOfEachLength(t *testing.T) {
	for _, adSize := range boxedSize {
		for _, textSize := range boxedSize {
			boxAsPlain(t, someBox(adSize, textSize))
		}
	}
	for n := range 200 {
		boxAsPlain(t, someBox(n, 20))
		boxAsPlain(t, someBox(20, n))
	}
}

func TestBoxesByChance(t *testing.T) {
	r := rand.New(rand.NewSource(7))
	for range 500 {
		all := make([]byte, 44+r.Intn(300))
		r.Read(all)
		rest := string(all[44:])
		cut := r.Intn(len(rest) + 1)
		boxAsPlain(t, box{string(all[:32]), string(all[32:44]), rest[:cut], rest[cut:]})
	}
	for _, one := range []string{"\x00", "\xff"} {
		for _, n := range []int{0, 15, 16, 17, 100} {
			boxAsPlain(t, box{strings.Repeat(one, 32), strings.Repeat(one, 12), strings.Repeat(one, n), strings.Repeat(one, n)})
		}
	}
}

func TestEmptyBoxes(t *testing.T) {
	for _, adSize := range boxedSize {
		b := someBox(adSize, 0)
		if sealed := sealBox(t, b); sealed != boxTag(t, b) {
			t.Errorf("SealBox of no text: %x", sealed)
		}
	}
	b := someBox(0, 0)
	opensAs(t, b.with(sealBox(t, b)), "")
}

func TestNoughtsShowTheBlocksFromOneOn(t *testing.T) {
	b := box{textOf(32), textOf(12), "beside", strings.Repeat("\x00", 150)}
	blocks := chaBlock(t, b.key, b.nonce, 1) + chaBlock(t, b.key, b.nonce, 2) + chaBlock(t, b.key, b.nonce, 3)
	if sealed := sealBox(t, b); sealed[:150] != blocks[:150] {
		t.Errorf("SealBox of noughts: %x", sealed)
	}
}

func TestLongBoxesAreOpened(t *testing.T) {
	for _, adSize := range []int{0, 1, 15, 16, 17, impl.MaxText - 16, impl.MaxText - 1, impl.MaxText} {
		for _, textSize := range []int{longestSealed - 17, longestSealed - 1, longestSealed} {
			boxAsPlain(t, someBox(adSize, textSize))
		}
		boxAsPlain(t, someBox(adSize, 0))
		boxAsPlain(t, someBox(adSize, 100))
	}
	// Each within MaxText, and only together above it.
	boxAsPlain(t, someBox(impl.MaxText/2, impl.MaxText/2))
	boxAsPlain(t, someBox(impl.MaxText/2, impl.MaxText/2+1))
	boxAsPlain(t, someBox(impl.MaxText/2+1, impl.MaxText/2))
}

// MaxText bounds what is handed in: such texts are sealed, and what they are
// sealed as is too long to be opened.
func TestBoxesThatAreTooLongToBeOpened(t *testing.T) {
	for _, adSize := range []int{0, 16, 17, impl.MaxText} {
		for _, textSize := range []int{longestSealed + 1, longestSealed + 2, impl.MaxText - 1, impl.MaxText} {
			b := someBox(adSize, textSize)
			sealed := sealBox(t, b)
			if sealed != plainSealed(b) {
				t.Errorf("SealBox, %v", b)
			}
			if boxTag(t, b) != plainBoxTag(b) {
				t.Errorf("BoxTag, %v", b)
			}
			noOpening(t, b.with(sealed), impl.ErrLong)
			noOpening(t, b, impl.ErrTag)
		}
	}
}

func TestTextsThatAreTooShortForABox(t *testing.T) {
	for _, adSize := range []int{0, 12, 16} {
		b := someBox(adSize, 0)
		tag := sealBox(t, b)
		for n := range 16 {
			noOpening(t, b.with(textOf(n)), impl.ErrTag)
			noOpening(t, b.with(strings.Repeat("\x00", n)), impl.ErrTag)
			noOpening(t, b.with(tag[:n]), impl.ErrTag)
			noOpening(t, b.with(tag[16-n:]), impl.ErrTag)
		}
		noOpening(t, b.with(textOf(16)), impl.ErrTag)
		noOpening(t, b.with(strings.Repeat("\x00", 16)), impl.ErrTag)
		noOpening(t, b.with(textOf(17)), impl.ErrTag)
		noOpening(t, b.with(tag+"\x00"), impl.ErrTag)
		noOpening(t, b.with("\x00"+tag), impl.ErrTag)
		opensAs(t, b.with(tag), "")
		opensAs(t, b.with(sealBox(t, b.with("x"))), "x")
	}
}

// toldOrRight wants ErrTag of what is not sealed, and its text of what has the
// tag that it makes now.
func toldOrRight(t *testing.T, b box) {
	t.Helper()
	hidden, tag := b.text[:len(b.text)-16], b.text[len(b.text)-16:]
	if tag == plainBoxTag(b.with(hidden)) {
		opensAs(t, b, plainXor(b.key, b.nonce, 1, hidden))
	} else {
		noOpening(t, b, impl.ErrTag)
	}
}

func TestEachByteOfABoxCounts(t *testing.T) {
	for _, n := range []int{0, 1, 15, 16, 17} {
		b := someBox(n, n)
		sealed := sealBox(t, b)
		for at := range sealed {
			for by := 1; by < 256; by++ {
				toldOrRight(t, b.with(changedAt(sealed, at, byte(by))))
			}
		}
	}
}

func TestEachBitOfABoxCounts(t *testing.T) {
	for _, n := range []int{31, 32, 33, 64, 100} {
		b := someBox(12, n)
		sealed := sealBox(t, b)
		for bit := range 8 * len(sealed) {
			noOpening(t, b.with(changedAt(sealed, bit/8, 1<<(bit%8))), impl.ErrTag)
		}
	}
}

func TestChangedLongBoxes(t *testing.T) {
	for _, n := range []int{1000, longestSealed - 1, longestSealed} {
		b := someBox(100, n)
		sealed := sealBox(t, b)
		for _, at := range []int{0, 1, 63, 64, n / 2, n - 1, n, n + 1, n + 14, n + 15} {
			for _, by := range []byte{1, 128, 255} {
				noOpening(t, b.with(changedAt(sealed, at, by)), impl.ErrTag)
			}
		}
	}
}

func TestBoxesWithTheRightTagAreOpened(t *testing.T) {
	for _, n := range []int{1, 16, 33, 100} {
		b := someBox(7, n)
		hidden := sealBox(t, b)[:n]
		for at := range n {
			forged := changedAt(hidden, at, 5)
			opensAs(t, b.with(forged+boxTag(t, b.with(forged))), changedAt(b.text, at, 5))
		}
	}
}

func TestBoxesWithBytesGoneOrMoved(t *testing.T) {
	b := someBox(20, 50)
	sealed := sealBox(t, b)
	for n := range sealed {
		noOpening(t, b.with(sealed[:n]), impl.ErrTag)
		if n > 0 {
			noOpening(t, b.with(sealed[n:]), impl.ErrTag)
		}
		noOpening(t, b.with(sealed[:n]+"\x00"+sealed[n:]), impl.ErrTag)
	}
	noOpening(t, b.with(sealed+"\x00"), impl.ErrTag)
	noOpening(t, b.with(sealed+sealed), impl.ErrTag)
	noOpening(t, b.with(sealed[50:]+sealed[:50]), impl.ErrTag)
	noOpening(t, b.with(sealed[16:32]+sealed[:16]+sealed[32:]), impl.ErrTag)
	noOpening(t, b.with(b.text), impl.ErrTag)
}

// The lengths tell a text from one with noughts behind it, and where the words
// beside it end.
func TestLengthsOfABoxCount(t *testing.T) {
	for _, n := range []int{0, 1, 15, 16, 17, 32} {
		b := someBox(n, n)
		seen := map[string]bool{}
		for more := range 20 {
			noughts := strings.Repeat("\x00", more)
			longer := b
			longer.ad += noughts
			seen[boxTag(t, longer)] = true
			seen[boxTag(t, b.with(b.text+noughts))] = true
		}
		if len(seen) != 39 {
			t.Error("BoxTag with noughts behind", n, len(seen))
		}
	}
	b := someBox(32, 32)
	seen := map[string]bool{}
	for cut := 0; cut <= 64; cut += 16 {
		all := b.ad + b.text
		seen[boxTag(t, box{b.key, b.nonce, all[:cut], all[cut:]})] = true
	}
	if len(seen) != 5 {
		t.Error("BoxTag cut elsewhere", len(seen))
	}
}

func TestAnotherKeyNonceOrWordsBeside(t *testing.T) {
	b := someBox(17, 40)
	b.text = sealBox(t, b)
	for bit := range 8 * 32 {
		other := b
		other.key = changedAt(b.key, bit/8, 1<<(bit%8))
		noOpening(t, other, impl.ErrTag)
	}
	for bit := range 8 * 12 {
		other := b
		other.nonce = changedAt(b.nonce, bit/8, 1<<(bit%8))
		noOpening(t, other, impl.ErrTag)
	}
	for bit := range 8 * 17 {
		other := b
		other.ad = changedAt(b.ad, bit/8, 1<<(bit%8))
		noOpening(t, other, impl.ErrTag)
	}
	for _, ad := range []string{"", "x", b.ad[:16], b.ad[1:], b.ad + "\x00", b.ad + "x", b.ad + b.ad, textOf(impl.MaxText)} {
		noOpening(t, box{b.key, b.nonce, ad, b.text}, impl.ErrTag)
	}
	empty := someBox(0, 40)
	empty.text = sealBox(t, empty)
	for _, ad := range []string{"\x00", strings.Repeat("\x00", 16), "x"} {
		noOpening(t, box{empty.key, empty.nonce, ad, empty.text}, impl.ErrTag)
	}
}

func TestWrongSizesOfBoxes(t *testing.T) {
	for _, size := range []int{0, 1, 15, 16, 17, 100, impl.MaxText} {
		b := someBox(9, size)
		for _, n := range wrongKeys {
			noBox(t, box{textOf(n), b.nonce, b.ad, b.text}, impl.ErrSize)
		}
		for _, n := range wrongNonces {
			noBox(t, box{b.key, textOf(n), b.ad, b.text}, impl.ErrSize)
		}
		noBox(t, box{b.nonce, b.key, b.ad, b.text}, impl.ErrSize)
		noBox(t, box{textOf(31), textOf(13), b.ad, b.text}, impl.ErrSize)
		noBox(t, box{"", "", b.ad, b.text}, impl.ErrSize)
		noBox(t, box{"", "", "", b.text}, impl.ErrSize)
	}
	b := someBox(9, 30)
	b.text = sealBox(t, b)
	noOpening(t, box{b.key[1:], b.nonce, b.ad, b.text}, impl.ErrSize)
	noOpening(t, box{b.key + "\x00", b.nonce, b.ad, b.text}, impl.ErrSize)
	noOpening(t, box{b.key, b.nonce[1:], b.ad, b.text}, impl.ErrSize)
	noOpening(t, box{b.key, b.nonce + "\x00", b.ad, b.text}, impl.ErrSize)
}

func TestWhichCodeOfBoxesIsFirst(t *testing.T) {
	for _, n := range []int{impl.MaxText + 1, impl.MaxText + 16, 2 * impl.MaxText} {
		long := textOf(n)
		for _, key := range []string{textOf(32), "", textOf(31), textOf(33), long} {
			for _, nonce := range []string{textOf(12), "", textOf(11), textOf(13), long} {
				noBox(t, box{key, nonce, long, ""}, impl.ErrLong)
				noBox(t, box{key, nonce, long, textOf(16)}, impl.ErrLong)
				noBox(t, box{key, nonce, "", long}, impl.ErrLong)
				noBox(t, box{key, nonce, textOf(impl.MaxText), long}, impl.ErrLong)
				noBox(t, box{long, nonce, "", key}, impl.ErrLong)
				noBox(t, box{key, long, nonce, ""}, impl.ErrLong)
			}
		}
	}
}
