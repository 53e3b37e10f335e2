package tests

import (
	"math/rand"
	"reflect"
	"regexp"
	"slices"
	"strings"
	"sync"
	"testing"

	"loop.example/g00524/impl"
)

var quotedPart = regexp.MustCompile(`(?s)"(?:[^"\\]|\\.)*"`)

// begun is what a text's beginning makes of a zero framer, by what stands outside quotes in the whole of it.
func begun(s string) impl.Framer {
	f := impl.Framer{Buf: s}
	outside, inside, open := strings.Cut(quotedPart.ReplaceAllString(s, ""), `"`)
	f.Quote = open
	f.Skip = (len(inside)-len(strings.TrimRight(inside, `\`)))%2 == 1
	for _, b := range []byte(outside) {
		switch b {
		case '[', '{':
			f.Depth++
		case ']', '}':
			f.Depth--
		}
	}
	return f
}

// firstText answers where the first text of a stream ends, or 0 and what it makes of a zero framer.
func firstText(s string) (int, impl.Framer) {
	var f impl.Framer
	for n := 1; n <= len(s); n++ {
		f = begun(s[:n])
		if n > 3000 || f.Depth > 12 {
			return 0, closed
		}
		if f.Depth == 0 {
			return n, impl.Framer{}
		}
	}
	return 0, f
}

// framed is another framer, which has the whole of a stream: it tells what Feed must answer.
func framed(text string) stream {
	s := stream{text: text}
	for {
		text = strings.TrimLeft(text, " \t\n\r")
		if text == "" {
			return s
		}
		if text[0] != '[' && text[0] != '{' {
			s.left = closed
			return s
		}
		end, left := firstText(text)
		if end == 0 {
			s.left = left
			return s
		}
		s.ended = append(s.ended, text[:end])
		text = text[end:]
	}
}

// single answers the bytes of a text as pieces.
func single(s string) []string {
	var pieces []string
	for i := range len(s) {
		pieces = append(pieces, s[i:i+1])
	}
	return pieces
}

// spaced answers pieces with an empty one ahead of each and behind the last.
func spaced(pieces []string) []string {
	list := []string{""}
	for _, piece := range pieces {
		list = append(list, piece, "")
	}
	return list
}

// cut answers a text as pieces that end at places.
func cut(s string, places ...int) []string {
	slices.Sort(places)
	var pieces []string
	begin := 0
	for _, place := range places {
		pieces = append(pieces, s[begin:place])
		begin = place
	}
	return append(pieces, s[begin:])
}

func TestPromise3CutOnceAndTwice(t *testing.T) {
	for _, s := range streams() {
		for i := range len(s.text) + 1 {
			fedAs(t, s, cut(s.text, i)...)
			fedAs(t, s, spaced(cut(s.text, i))...)
			for k := i; k <= len(s.text); k++ {
				fedAs(t, s, cut(s.text, i, k)...)
			}
		}
	}
}

func TestPromise3PiecesOfOneByte(t *testing.T) {
	for _, s := range streams() {
		fedAs(t, s, single(s.text)...)
		fedAs(t, s, spaced(single(s.text))...)
	}
}

func TestPromise3LongMessages(t *testing.T) {
	most := filled(`["\"]" [`, 2998) + "]]"
	more := filled(`["\"]" [`, 2999) + "]]"
	for _, s := range []stream{
		{most, keys(most), impl.Framer{}},
		{"[]" + most + "{", keys("[]", most), within("{", 1)},
		{more, nil, closed},
		{"[]" + more + "[]", keys("[]"), closed},
		{more[:3000], nil, within(more[:3000], 1)},
	} {
		fedAs(t, s, single(s.text)...)
		for i := range len(s.text) + 1 {
			if i < 20 || i > len(s.text)-20 || i%100 == 0 {
				fedAs(t, s, cut(s.text, i)...)
				fedAs(t, s, cut(s.text, i/2, i)...)
			}
		}
	}
}

// allTexts answers all texts of at most so many bytes of an alphabet.
func allTexts(alphabet string, most int) []string {
	texts := []string{""}
	last := texts
	for range most {
		var longer []string
		for _, s := range last {
			for i := range len(alphabet) {
				longer = append(longer, s+alphabet[i:i+1])
			}
		}
		texts = append(texts, longer...)
		last = longer
	}
	return texts
}

func TestPromise3AllShortStreamsCutInAllWays(t *testing.T) {
	for _, text := range allTexts(`[}"\ x`, 5) {
		want := framed(text)
		framesAs(t, want)
		framesAs(t, framed("["+text))
		framesAs(t, framed(`["`+text))
		for ways := range 1 << max(0, len(text)-1) {
			var places []int
			for i := range len(text) - 1 {
				if ways>>i&1 == 1 {
					places = append(places, i+1)
				}
			}
			fedAs(t, want, cut(text, places...)...)
		}
	}
}

const streamBytes = "[[[{]]]}}\"\"\\ \nx1,:"

func someStream(r *rand.Rand, most int) string {
	s := make([]byte, r.Intn(most))
	for i := range s {
		s[i] = streamBytes[r.Intn(len(streamBytes))]
	}
	return string(s)
}

// someCut answers a text cut at a few places.
func someCut(r *rand.Rand, s string) []string {
	var places []int
	for range r.Intn(6) {
		places = append(places, r.Intn(len(s)+1))
	}
	return cut(s, places...)
}

func TestPromise3SomeStreams(t *testing.T) {
	r := rand.New(rand.NewSource(4))
	for range 3000 {
		s := someStream(r, 60)
		if r.Intn(2) == 0 {
			s = "[" + s
		}
		want := framed(s)
		framesAs(t, want)
		fedAs(t, want, someCut(r, s)...)
		fedAs(t, want, single(s)...)
	}
}

// What values' texts say is no matter of brackets within them: each is framed as a whole.
func TestPromise3TextsOfValues(t *testing.T) {
	r := rand.New(rand.NewSource(5))
	blanks := []string{"", " ", "\n", "\r\n\t "}
	for range 1000 {
		var want stream
		for range r.Intn(5) {
			printed, _ := impl.PrintJson(list(someValue(r, 5)))
			want.ended = append(want.ended, printed)
			want.text += blanks[r.Intn(4)] + printed + blanks[r.Intn(4)]
		}
		framesAs(t, want)
		fedAs(t, want, someCut(r, want.text)...)
		fedAs(t, want, single(want.text)...)
	}
}

// A framer is what some bytes make of a zero one: of those with at most 4 bytes, these are all.
func TestPromise3FramersAreWhatBytesMake(t *testing.T) {
	texts := allTexts("[{]}\"\\ x", 4)
	made := map[impl.Framer]int{}
	for _, s := range texts {
		made[framed(s).left]++
	}
	bools := []bool{false, true}
	for _, s := range texts {
		for depth := -1; depth <= 5; depth++ {
			for _, quote := range bools {
				for _, skip := range bools {
					for _, isClosed := range bools {
						f := impl.Framer{Buf: s, Depth: depth, Quote: quote, Skip: skip, Closed: isClosed}
						if impl.FramerOK(f) != (made[f] > 0) {
							t.Errorf("FramerOK(%s) is %v", told(f), made[f] == 0)
						}
					}
				}
			}
		}
	}
}

// streamAnswers are those of all calls that take a stream's bytes.
func streamAnswers(f impl.Framer, s string, pieces []string) []any {
	g, ended, code := impl.Feed(f, s)
	all, allEnded, allCode := impl.FeedAll(pieces)
	n, isClosed, textCode := impl.FrameText(s)
	return []any{impl.FramerOK(f), g, append([]string{}, ended...), code, all, append([]string{}, allEnded...), allCode, n, isClosed, textCode}
}

func TestPromise1StreamsAlikeAnswers(t *testing.T) {
	for range 2 {
		for _, s := range streams() {
			for _, other := range streams() {
				pieces := keys(s.text, other.text)
				first := streamAnswers(s.left, other.text, pieces)
				impl.Feed(within("[", 1), "\"\\")
				impl.Feed(impl.Framer{}, "x")
				impl.FeedAll(keys("[[", "\""))
				impl.FrameText("[[[")
				if second := streamAnswers(s.left, other.text, pieces); !reflect.DeepEqual(first, second) {
					t.Errorf("%.40q and %.40q: %v, then %v", s.text, other.text, first, second)
				}
			}
		}
	}
}

func TestPromise1StreamsAtTheSameTime(t *testing.T) {
	var all sync.WaitGroup
	for range 8 {
		all.Go(func() {
			for _, s := range streams() {
				framesAs(t, s)
			}
		})
	}
	all.Wait()
}

func TestPromise1PiecesStay(t *testing.T) {
	list := keys("[1", "]", "[2] ", "x", "behind", "the end")
	ahead := slices.Clone(list)
	for n := range len(list) + 1 {
		impl.FeedAll(list[:n])
		if !slices.Equal(list, ahead) {
			t.Fatalf("FeedAll of %d pieces changed them: %q", n, list)
		}
	}
}

func TestPromise1EndedTextsAreNew(t *testing.T) {
	pieces := keys("[1]", "[2]", "[3]")
	_, first, _ := impl.FeedAll(pieces)
	_, fed, _ := impl.Feed(impl.Framer{}, "[1][2][3]")
	for _, list := range [][]string{first, fed} {
		list = list[:cap(list)]
		for i := range list {
			list[i] = "spoilt"
		}
	}
	fedAs(t, stream{left: impl.Framer{}, ended: keys("[1]", "[2]", "[3]")}, pieces...)
	framesAs(t, stream{"[1][2][3]", keys("[1]", "[2]", "[3]"), impl.Framer{}})
	if !slices.Equal(pieces, keys("[1]", "[2]", "[3]")) {
		t.Errorf("an answer of FeedAll shares memory with its argument: %q", pieces)
	}
}
