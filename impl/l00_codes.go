package impl

const (
	MaxText = 65536
	MaxList = 4096
	MaxName = 40

	OK        = 0
	ErrBad    = 1
	ErrLong   = 2
	ErrForm   = 3
	ErrRange  = 4
	ErrNone   = 5
	ErrMany   = 6
	ErrFull   = 7
	ErrTwice  = 8
	ErrType   = 9
	ErrTable  = 10
	ErrColumn = 11
	ErrUnique = 12
	ErrRef    = 13
	ErrOwner  = 14
	ErrWait   = 15
	ErrAbort  = 16
	ErrClosed = 17
	ErrDeep   = 18
	ErrMethod = 19
)

var codeWords = [...]string{
	OK:        "ok",
	ErrBad:    "bad",
	ErrLong:   "long",
	ErrForm:   "form",
	ErrRange:  "range",
	ErrNone:   "none",
	ErrMany:   "many",
	ErrFull:   "full",
	ErrTwice:  "twice",
	ErrType:   "type",
	ErrTable:  "table",
	ErrColumn: "column",
	ErrUnique: "unique",
	ErrRef:    "ref",
	ErrOwner:  "owner",
	ErrWait:   "wait",
	ErrAbort:  "abort",
	ErrClosed: "closed",
	ErrDeep:   "deep",
	ErrMethod: "method",
}

// NameOK tells whether t is a name.
func NameOK(t string) bool {
	if len(t) < 1 || len(t) > MaxName || isDigit(t[0]) {
		return false
	}
	for i := range len(t) {
		if !isLetter(t[i]) && !isDigit(t[i]) {
			return false
		}
	}
	return true
}

func isLetter(b byte) bool {
	return b >= 'a' && b <= 'z' || b >= 'A' && b <= 'Z' || b == '_'
}

func isDigit(b byte) bool {
	return b >= '0' && b <= '9'
}

// CodeWord answers the word of a code, the empty text for any other number.
func CodeWord(code int) string {
	if code < 0 || code >= len(codeWords) {
		return ""
	}
	return codeWords[code]
}

// CodeOf answers the code of a word, -1 for any other text.
func CodeOf(word string) int {
	for code := range len(codeWords) {
		if codeWords[code] == word {
			return code
		}
	}
	return -1
}
