package impl

const (
	MaxText = 65536
	MaxList = 4096
	MaxName = 40

	OK          = 0
	ErrBad      = 1
	ErrLong     = 2
	ErrForm     = 3
	ErrRange    = 4
	ErrNone     = 5
	ErrMany     = 6
	ErrFull     = 7
	ErrSize     = 8
	ErrTag      = 9
	ErrTampered = 10
	ErrTorn     = 11
	ErrStash    = 12
	ErrTape     = 13
	ErrCheck    = 14
	ErrPending  = 15
	ErrDown     = 16
	ErrUp       = 17
	ErrSpent    = 18
	ErrKey      = 19
)

// codeWords holds each code's word at the code's own number.
var codeWords = [...]string{
	OK:          "ok",
	ErrBad:      "bad",
	ErrLong:     "long",
	ErrForm:     "form",
	ErrRange:    "range",
	ErrNone:     "none",
	ErrMany:     "many",
	ErrFull:     "full",
	ErrSize:     "size",
	ErrTag:      "tag",
	ErrTampered: "tampered",
	ErrTorn:     "torn",
	ErrStash:    "stash",
	ErrTape:     "tape",
	ErrCheck:    "check",
	ErrPending:  "pending",
	ErrDown:     "down",
	ErrUp:       "up",
	ErrSpent:    "spent",
	ErrKey:      "key",
}

// NameOK says whether t is a name.
func NameOK(t string) bool {
	if len(t) == 0 || len(t) > MaxName || !beginsName(t[0]) {
		return false
	}
	for i := 1; i < len(t); i++ {
		if !beginsName(t[i]) && !isDigit(t[i]) {
			return false
		}
	}
	return true
}

func beginsName(b byte) bool {
	return b >= 'a' && b <= 'z' || b >= 'A' && b <= 'Z' || b == '_'
}

func isDigit(b byte) bool {
	return b >= '0' && b <= '9'
}

// CodeWord answers the word of a code, and the empty text for any other number.
func CodeWord(code int) string {
	if code < 0 || code >= len(codeWords) {
		return ""
	}
	return codeWords[code]
}

// CodeOf answers the code of a word, and -1 for any other text.
func CodeOf(word string) int {
	for code, w := range codeWords {
		if w == word {
			return code
		}
	}
	return -1
}
