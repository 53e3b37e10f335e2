package tests

import (
	"math"
	"strings"
	"testing"

	"loop.example/g00524/impl"
)

func TestNames(t *testing.T) {
	long := strings.Repeat("n", impl.MaxName)
	for _, name := range []string{"a", "z", "A", "Z", "_", "a0", "a9", "_0", "Az_09", "__", long, "_" + strings.Repeat("9", impl.MaxName-1)} {
		if !impl.NameOK(name) {
			t.Errorf("NameOK(%q) is false", name)
		}
	}
	for _, name := range []string{"", "0", "9a", " ", " a", "a ", "a b", "a-b", "a.b", "é", "a\x00", "a\xff", long + "n", strings.Repeat("n", impl.MaxText), strings.Repeat("n", impl.MaxText+1)} {
		if impl.NameOK(name) {
			t.Errorf("NameOK(%.50q) is true", name)
		}
	}
}

func TestNamesByteByByte(t *testing.T) {
	const letters = "abcdefghijklmnopqrstuvwxyzABCDEFGHIJKLMNOPQRSTUVWXYZ_"
	const digits = "0123456789"
	for b := range 256 {
		one := string([]byte{byte(b)})
		if got, want := impl.NameOK(one), strings.Contains(letters, one); got != want {
			t.Errorf("NameOK of byte %d is %v", b, got)
		}
		if got, want := impl.NameOK("a"+one), strings.Contains(letters+digits, one); got != want {
			t.Errorf("NameOK of a and byte %d is %v", b, got)
		}
	}
}

func TestCodes(t *testing.T) {
	words := strings.Fields("ok bad long form range none many full twice type table column unique ref owner wait abort closed deep method")
	codes := []int{impl.OK, impl.ErrBad, impl.ErrLong, impl.ErrForm, impl.ErrRange, impl.ErrNone, impl.ErrMany, impl.ErrFull, impl.ErrTwice, impl.ErrType, impl.ErrTable, impl.ErrColumn, impl.ErrUnique, impl.ErrRef, impl.ErrOwner, impl.ErrWait, impl.ErrAbort, impl.ErrClosed, impl.ErrDeep, impl.ErrMethod}
	if len(words) != len(codes) {
		t.Fatal(len(words), "words,", len(codes), "codes")
	}
	for i, word := range words {
		if codes[i] != i {
			t.Errorf("the code of %s is %d, not %d", word, codes[i], i)
		}
		if got := impl.CodeWord(i); got != word {
			t.Errorf("CodeWord(%d) is %q, not %q", i, got, word)
		}
		if got := impl.CodeOf(word); got != i {
			t.Errorf("CodeOf(%q) is %d, not %d", word, got, i)
		}
	}
	for _, code := range []int{-1, len(words), math.MinInt, math.MaxInt} {
		if got := impl.CodeWord(code); got != "" {
			t.Errorf("CodeWord(%d) is %q", code, got)
		}
	}
	for _, word := range []string{"", "OK", "ok ", " ok", "o", "okk", "metho", "\x00", strings.Repeat("ok", impl.MaxText)} {
		if got := impl.CodeOf(word); got != -1 {
			t.Errorf("CodeOf(%.20q) is %d", word, got)
		}
	}
}
