package impl

import (
	"strings"
	"testing"
)

// byteSays is what chapter 3 of the document says that a byte does, told once more.
func byteSays(b byte) uint8 {
	groups := map[string]uint8{" \t\n\r": byteBlank, "[{": byteOpens, "]}": byteShuts, "\"": byteQuotes, "\\": byteSkips}
	for bytes, does := range groups {
		if strings.IndexByte(bytes, b) >= 0 {
			return does
		}
	}
	return bytePlain
}

// The array is looked at only behind a call of FrameText, which must have filled it.
func TestBytesDoTheSameByTheArrayAndByTheFunction(t *testing.T) {
	for _, text := range []string{"", "[]", "[\"]\\\"\"]]", strings.Repeat("[", MaxDeep+1), strings.Repeat("]", MaxText)} {
		FrameText(text)
		if len(byteTable) != 256 {
			t.Fatalf("the array has %d bytes", len(byteTable))
		}
		for b := range 256 {
			if byteTable[b] != byteDoes(byte(b)) || byteTable[b] != byteSays(byte(b)) {
				t.Errorf("behind FrameText(%.20q) byte %d does %d by the array, %d by the function, %d by the document", text, b, byteTable[b], byteDoes(byte(b)), byteSays(byte(b)))
			}
		}
	}
}

// spoilTable makes each byte do the same by the array.
func spoilTable(does uint8) {
	for b := range len(byteTable) {
		byteTable[b] = does
	}
}

func TestNoAnswerHangsOnTheArray(t *testing.T) {
	const text = "[1] {\"a\":\"]}\\\"\"}[\"x\\"
	left := Framer{Buf: "[\"x\\", Depth: 1, Quote: true, Skip: true}
	FrameText("")
	right := byteTable
	defer func() { byteTable = right }()
	for does := range uint8(byteSkips + 1) {
		spoilTable(does)
		if !FramerOK(left) {
			t.Errorf("%d: FramerOK(%v) is false", does, left)
		}
		if f, ended, code := Feed(Framer{}, text); f != left || len(ended) != 2 || code != OK {
			t.Errorf("%d: Feed is %v, %q, %d", does, f, ended, code)
		}
		if f, ended, code := FeedAll([]string{text, "\"\"]"}); f != (Framer{}) || len(ended) != 3 || code != OK {
			t.Errorf("%d: FeedAll is %v, %q, %d", does, f, ended, code)
		}
		if n, closed, code := FrameText(text + "\"\"]x"); n != 3 || !closed || code != OK {
			t.Errorf("%d: FrameText is %d, %v, %d", does, n, closed, code)
		}
	}
}
