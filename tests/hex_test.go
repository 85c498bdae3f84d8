package tests

import (
	"encoding/hex"
	"strings"
	"testing"

	"loop.example/g00548/impl"
)

func TestDigitsOfEachByte(t *testing.T) {
	for b := range 256 {
		s := string([]byte{byte(b)})
		want := hex.EncodeToString([]byte(s))
		if x, code := impl.HexOf(s); x != want || code != impl.OK {
			t.Error("HexOf", b, x, code)
		}
		if x, code := impl.UnHex(want); x != s || code != impl.OK {
			t.Error("UnHex", want, x, code)
		}
	}
}

func TestBytesAreReadBack(t *testing.T) {
	for _, n := range []int{0, 1, 2, 3, 32, 255, 1000, impl.MaxText/2 - 1, impl.MaxText / 2} {
		s := textOf(n)
		x, code := impl.HexOf(s)
		if x != hex.EncodeToString([]byte(s)) || code != impl.OK {
			t.Error("HexOf", n, code)
		}
		if y, code := impl.UnHex(x); y != s || code != impl.OK {
			t.Error("UnHex", n, code)
		}
	}
}

func TestLongDigits(t *testing.T) {
	for _, n := range []int{impl.MaxText/2 + 1, impl.MaxText - 1, impl.MaxText} {
		s := textOf(n)
		x, code := impl.HexOf(s)
		if x != hex.EncodeToString([]byte(s)) || code != impl.OK {
			t.Error("HexOf", n, code)
		}
		if y, code := impl.UnHex(x); y != "" || code != impl.ErrLong {
			t.Error("UnHex", n, code)
		}
	}
	if x, code := impl.HexOf(textOf(impl.MaxText + 1)); x != "" || code != impl.ErrLong {
		t.Error("HexOf", code)
	}
	for _, s := range []string{strings.Repeat("0", impl.MaxText+1), strings.Repeat("0", impl.MaxText+2), strings.Repeat("Z", impl.MaxText+1)} {
		if x, code := impl.UnHex(s); x != "" || code != impl.ErrLong {
			t.Error("UnHex", len(s), code)
		}
	}
}

func TestBytesThatAreNoDigits(t *testing.T) {
	for b := range 256 {
		if strings.Contains("0123456789abcdef", string([]byte{byte(b)})) {
			continue
		}
		s := string([]byte{byte(b)})
		for _, text := range []string{s + "0", "0" + s, s + s, "00" + s + "f", "ab" + "c" + s, "a0" + s + "0" + "ff"} {
			if x, code := impl.UnHex(text); x != "" || code != impl.ErrForm {
				t.Errorf("UnHex %q: %q %d", text, x, code)
			}
		}
	}
	last := strings.Repeat("0", impl.MaxText-1)
	if x, code := impl.UnHex(last + "A"); x != "" || code != impl.ErrForm {
		t.Error("UnHex with a capital at the end", code)
	}
}

func TestOddDigits(t *testing.T) {
	for _, n := range []int{1, 3, 63, 65, impl.MaxText - 1} {
		if x, code := impl.UnHex(strings.Repeat("7", n)); x != "" || code != impl.ErrForm {
			t.Error("UnHex", n, code)
		}
	}
}
