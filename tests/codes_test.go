package tests

import (
	"math"
	"strings"
	"testing"

	"loop.example/g00548/impl"
)

const (
	letters = "abcdefghijklmnopqrstuvwxyzABCDEFGHIJKLMNOPQRSTUVWXYZ_"
	digits  = "0123456789"
)

var allCodes = []struct {
	number, constant int
	word             string
}{
	{0, impl.OK, "ok"},
	{1, impl.ErrBad, "bad"},
	{2, impl.ErrLong, "long"},
	{3, impl.ErrForm, "form"},
	{4, impl.ErrRange, "range"},
	{5, impl.ErrNone, "none"},
	{6, impl.ErrMany, "many"},
	{7, impl.ErrFull, "full"},
	{8, impl.ErrSize, "size"},
	{9, impl.ErrTag, "tag"},
	{10, impl.ErrTampered, "tampered"},
	{11, impl.ErrTorn, "torn"},
	{12, impl.ErrStash, "stash"},
	{13, impl.ErrTape, "tape"},
	{14, impl.ErrCheck, "check"},
	{15, impl.ErrPending, "pending"},
	{16, impl.ErrDown, "down"},
	{17, impl.ErrUp, "up"},
	{18, impl.ErrSpent, "spent"},
	{19, impl.ErrKey, "key"},
}

func TestBounds(t *testing.T) {
	if impl.MaxText != 65536 || impl.MaxList != 4096 || impl.MaxName != 40 {
		t.Error(impl.MaxText, impl.MaxList, impl.MaxName)
	}
}

func TestCodesAndWords(t *testing.T) {
	for _, c := range allCodes {
		if c.constant != c.number {
			t.Error("constant of", c.word, c.constant, c.number)
		}
		if w := impl.CodeWord(c.number); w != c.word {
			t.Error("CodeWord", c.number, w)
		}
		if n := impl.CodeOf(c.word); n != c.number {
			t.Error("CodeOf", c.word, n)
		}
	}
}

func TestNumbersThatAreNoCodes(t *testing.T) {
	for _, n := range []int{-1, -2, 20, 21, 256, 4294967296, math.MinInt, math.MaxInt} {
		if w := impl.CodeWord(n); w != "" {
			t.Error("CodeWord", n, w)
		}
	}
}

func TestTextsThatAreNoWords(t *testing.T) {
	texts := []string{
		"", " ", "0", "OK", "Bad", "okk", "o", "k", "ok\x00", "\x00ok", "tampere", "tampered ", "keys", "\xff",
		"ok bad", strings.Repeat("ok", impl.MaxText), strings.Repeat("k", impl.MaxText), strings.Repeat("k", impl.MaxText+1),
	}
	for _, c := range allCodes {
		texts = append(texts, " "+c.word, c.word+" ", c.word+"\n", strings.ToUpper(c.word), c.word+c.word)
		texts = append(texts, c.word+strings.Repeat(" ", impl.MaxText))
	}
	for _, s := range texts {
		if n := impl.CodeOf(s); n != -1 {
			t.Errorf("CodeOf of %d bytes %.20q: %d", len(s), s, n)
		}
	}
}

func TestNamesByEachByte(t *testing.T) {
	for b := range 256 {
		s := string([]byte{byte(b)})
		first := strings.Contains(letters, s)
		later := first || strings.Contains(digits, s)
		if impl.NameOK(s) != first || impl.NameOK(s+"a") != first {
			t.Errorf("NameOK %q at the beginning", s)
		}
		if impl.NameOK("a"+s) != later || impl.NameOK("_"+s+"b") != later {
			t.Errorf("NameOK %q behind the beginning", s)
		}
		if impl.NameOK(strings.Repeat("x", impl.MaxName-1)+s) != later {
			t.Errorf("NameOK %q at the end", s)
		}
	}
}

func TestNamesByLength(t *testing.T) {
	for _, n := range []int{0, 1, 2, 39, 40, 41, 42, impl.MaxText, impl.MaxText + 1} {
		want := n >= 1 && n <= 40
		if impl.NameOK(strings.Repeat("q", n)) != want {
			t.Error("NameOK of a text of", n)
		}
	}
}
