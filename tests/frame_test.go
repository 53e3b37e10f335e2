package tests

import (
	"fmt"
	"math"
	"slices"
	"strings"
	"testing"

	"loop.example/g00524/impl"
)

var closed = impl.Framer{Closed: true}

// told answers a framer in few bytes.
func told(f impl.Framer) string {
	return fmt.Sprintf("{%.60q %d %v %v %v}", f.Buf, f.Depth, f.Quote, f.Skip, f.Closed)
}

// within answers a framer that is in a text.
func within(begun string, depth int) impl.Framer {
	return impl.Framer{Buf: begun, Depth: depth}
}

// quoted answers a framer that is within quotes.
func quoted(begun string, depth int) impl.Framer {
	return impl.Framer{Buf: begun, Depth: depth, Quote: true}
}

// skipping answers a framer that is behind a byte 92 within quotes.
func skipping(begun string, depth int) impl.Framer {
	return impl.Framer{Buf: begun, Depth: depth, Quote: true, Skip: true}
}

// stream is one with the texts that end in it, and what it makes of a zero framer.
type stream struct {
	text  string
	ended []string
	left  impl.Framer
}

func streams() []stream {
	deep := strings.Repeat("[{", 6)
	return []stream{
		{"", nil, impl.Framer{}},
		{" \t\r\n ", nil, impl.Framer{}},
		{"[]", keys("[]"), impl.Framer{}},
		{"{}", keys("{}"), impl.Framer{}},
		{"[}", keys("[}"), impl.Framer{}},
		{"{]", keys("{]"), impl.Framer{}},
		{"[{]}", keys("[{]}"), impl.Framer{}},
		{"[][]{}", keys("[]", "[]", "{}"), impl.Framer{}},
		{" [] \n{}\t", keys("[]", "{}"), impl.Framer{}},
		{"[ 1 ,\n2\t]", keys("[ 1 ,\n2\t]"), impl.Framer{}},
		{"[nonsense : , \x00\xff]", keys("[nonsense : , \x00\xff]"), impl.Framer{}},
		{`{"a":[1,{"b":2}]}[3]`, keys(`{"a":[1,{"b":2}]}`, "[3]"), impl.Framer{}},
		{"[", nil, within("[", 1)},
		{" {", nil, within("{", 1)},
		{"[] [ ", keys("[]"), within("[ ", 1)},
		{"[[{]", nil, within("[[{]", 2)},
		{"[{[]}", nil, within("[{[]}", 1)},
		{"]", nil, closed},
		{" }", nil, closed},
		{"[]]", keys("[]"), closed},
		{"[]}[]", keys("[]"), closed},
		{"x[]", nil, closed},
		{"1", nil, closed},
		{"\"[]\"", nil, closed},
		{"\\[]", nil, closed},
		{"[] , []", keys("[]"), closed},
		{"[]\v[]", keys("[]"), closed},
		{"[]\x00", keys("[]"), closed},
		{`["]"]`, keys(`["]"]`), impl.Framer{}},
		{`["["]`, keys(`["["]`), impl.Framer{}},
		{`{"}}]]":"{{[["}[]`, keys(`{"}}]]":"{{[["}`, "[]"), impl.Framer{}},
		{`["\"]"]`, keys(`["\"]"]`), impl.Framer{}},
		{`["\\"]`, keys(`["\\"]`), impl.Framer{}},
		{`["\\\"]"]`, keys(`["\\\"]"]`), impl.Framer{}},
		{`["\\]"]`, keys(`["\\]"]`), impl.Framer{}},
		{`["\]"]`, keys(`["\]"]`), impl.Framer{}},
		{`["\n\u0041"]`, keys(`["\n\u0041"]`), impl.Framer{}},
		{"[\"\n \t\"] ", keys("[\"\n \t\"]"), impl.Framer{}},
		{`[""]`, keys(`[""]`), impl.Framer{}},
		{`["" ""]`, keys(`["" ""]`), impl.Framer{}},
		{`[\]`, keys(`[\]`), impl.Framer{}},
		{`[\"]"]`, keys(`[\"]"]`), impl.Framer{}},
		{`[\[]]`, keys(`[\[]]`), impl.Framer{}},
		{`["`, nil, quoted(`["`, 1)},
		{`[["]]`, nil, quoted(`[["]]`, 2)},
		{`["\`, nil, skipping(`["\`, 1)},
		{`["\\`, nil, quoted(`["\\`, 1)},
		{`["\"`, nil, quoted(`["\"`, 1)},
		{`["\\\`, nil, skipping(`["\\\`, 1)},
		{`["\\"`, nil, within(`["\\"`, 1)},
		{`[\`, nil, within(`[\`, 1)},
		{`["a"\`, nil, within(`["a"\`, 1)},
		{deep, nil, within(deep, 12)},
		{deep + "[", nil, closed},
		{deep + strings.Repeat("]", 12), keys(deep + strings.Repeat("]", 12)), impl.Framer{}},
		{"[] " + deep + "{" + strings.Repeat("}", 13) + "[]", keys("[]"), closed},
		{deep + "}}[{", nil, within(deep+"}}[{", 12)},
		{deep + "}[[", nil, closed},
		{deep + `"[[[{{{"`, nil, within(deep+`"[[[{{{"`, 12)},
		{`["` + deep + deep + `"]`, keys(`["` + deep + deep + `"]`), impl.Framer{}},
	}
}

// fedAs tells that pieces, fed one by one, and all of them at once, make left and ended.
func fedAs(t *testing.T, want stream, pieces ...string) {
	t.Helper()
	var f impl.Framer
	var ended []string
	for i, piece := range pieces {
		g, list, code := impl.Feed(f, piece)
		if f.Closed && (code != impl.ErrClosed || g != f || len(list) > 0) || !f.Closed && code != impl.OK {
			t.Errorf("Feed of piece %d of %.80q is %s, %.80q, %d", i, pieces, told(g), list, code)
			return
		}
		if !impl.FramerOK(g) {
			t.Errorf("FramerOK of what piece %d of %.80q makes is false: %s", i, pieces, told(g))
		}
		f, ended = g, append(ended, list...)
	}
	if f != want.left || !slices.Equal(ended, want.ended) {
		t.Errorf("%.80q are fed to be %s, %.80q, not %s, %.80q", pieces, told(f), ended, told(want.left), want.ended)
	}
	if f, ended, code := impl.FeedAll(pieces); f != want.left || !slices.Equal(ended, want.ended) || code != impl.OK {
		t.Errorf("FeedAll(%.80q) is %s, %.80q, %d, not %s, %.80q", pieces, told(f), ended, code, told(want.left), want.ended)
	}
}

// framesAs tells that a stream makes what it should, as a whole.
func framesAs(t *testing.T, s stream) {
	t.Helper()
	fedAs(t, s, s.text)
	if n, closed, code := impl.FrameText(s.text); n != len(s.ended) || closed != s.left.Closed || code != impl.OK {
		t.Errorf("FrameText(%.80q) is %d, %v, %d", s.text, n, closed, code)
	}
}

func TestStreams(t *testing.T) {
	for _, s := range streams() {
		framesAs(t, s)
	}
}

func TestNothingIsFed(t *testing.T) {
	fedAs(t, stream{})
	fedAs(t, stream{}, "", "", "")
	for _, list := range [][]string{nil, {}} {
		if f, ended, code := impl.FeedAll(list); f != (impl.Framer{}) || len(ended) > 0 || code != impl.OK {
			t.Errorf("FeedAll of nothing is %s, %.80q, %d", told(f), ended, code)
		}
	}
	for _, s := range streams() {
		f, ended, code := impl.Feed(s.left, "")
		if f != s.left || len(ended) > 0 || s.left.Closed != (code == impl.ErrClosed) || !s.left.Closed && code != impl.OK {
			t.Errorf("Feed of nothing to %s is %s, %.80q, %d", told(s.left), told(f), ended, code)
		}
	}
}

func TestEachByteOutsideATextAndWithin(t *testing.T) {
	for b := range 256 {
		one := string([]byte{byte(b)})
		opens, shuts, blank := strings.Contains("[{", one), strings.Contains("]}", one), strings.Contains(" \t\n\r", one)
		outside := closed
		if opens {
			outside = within(one, 1)
		} else if blank {
			outside = impl.Framer{}
		}
		framesAs(t, stream{one, nil, outside})
		framesAs(t, stream{"[]" + one, keys("[]"), outside})
		framesAs(t, stream{"[] " + one, keys("[]"), outside})
		for _, begin := range []string{"[", "{", "[ ", `[""`, `[\`} {
			switch {
			case opens:
				framesAs(t, stream{begin + one, nil, within(begin+one, 2)})
			case shuts:
				framesAs(t, stream{begin + one, keys(begin + one), impl.Framer{}})
			case b == '"':
				framesAs(t, stream{begin + one, nil, quoted(begin+one, 1)})
			default:
				framesAs(t, stream{begin + one, nil, within(begin+one, 1)})
			}
		}
	}
}

func TestEachByteWithinQuotes(t *testing.T) {
	for b := range 256 {
		one := string([]byte{byte(b)})
		for _, begin := range []string{`["`, `["a`, `["\\`, `["\"`, `["" "`, `["[`} {
			switch b {
			case '"':
				framesAs(t, stream{begin + one, nil, within(begin+one, 1)})
			case '\\':
				framesAs(t, stream{begin + one, nil, skipping(begin+one, 1)})
			default:
				framesAs(t, stream{begin + one, nil, quoted(begin+one, 1)})
			}
		}
		for _, begin := range []string{`["\`, `["a\`, `["\\\`, `["\"\`} {
			framesAs(t, stream{begin + one, nil, quoted(begin+one, 1)})
			framesAs(t, stream{begin + one + `"]`, keys(begin + one + `"]`), impl.Framer{}})
		}
	}
}

// filled answers a text's beginning of so many bytes.
func filled(begin string, count int) string {
	return begin + strings.Repeat("x", count-len(begin))
}

func TestLongestMessages(t *testing.T) {
	for _, begin := range []string{"[", "{", "[[]", "[\n", `[""`} {
		most := filled(begin, 2999) + "]"
		framesAs(t, stream{most, keys(most), impl.Framer{}})
		framesAs(t, stream{most + "[]" + most, keys(most, "[]", most), impl.Framer{}})
		framesAs(t, stream{" \n" + most + " ", keys(most), impl.Framer{}})
		framesAs(t, stream{filled(begin, 3000) + "]", nil, closed})
		framesAs(t, stream{"[]" + filled(begin, 3000) + "][]", keys("[]"), closed})
	}
	most := filled(`["`, 2998) + `"]`
	framesAs(t, stream{most, keys(most), impl.Framer{}})
	framesAs(t, stream{filled(`["`, 2999) + `"]`, nil, closed})
	deep := filled(strings.Repeat("[", 12), 2988) + strings.Repeat("]", 12)
	framesAs(t, stream{deep, keys(deep), impl.Framer{}})
	framesAs(t, stream{filled(strings.Repeat("[", 12), 2989) + strings.Repeat("]", 12), nil, closed})
}

func TestOneByteMoreThanAMessageCloses(t *testing.T) {
	for _, most := range []impl.Framer{
		within(filled("[", 3000), 1),
		within(filled("[{", 3000), 2),
		within(filled("[", 2999)+"[", 2),
		quoted(filled(`["`, 3000), 1),
		quoted(filled("[", 2999)+`"`, 1),
		skipping(filled(`["`, 2999)+`\`, 1),
	} {
		framesAs(t, stream{most.Buf, nil, most})
		for b := range 256 {
			one := string([]byte{byte(b)})
			if f, ended, code := impl.Feed(most, one); f != closed || len(ended) > 0 || code != impl.OK {
				t.Errorf("Feed of byte %d to 3000 bytes is %s, %.80q, %d", b, told(f), ended, code)
			}
			framesAs(t, stream{"[] " + most.Buf + one + "]", keys("[]"), closed})
		}
	}
}

func TestBlanksBetweenTextsAreNoneOfTheirs(t *testing.T) {
	blanks := strings.Repeat(" \t\n\r", 2000)
	framesAs(t, stream{blanks, nil, impl.Framer{}})
	framesAs(t, stream{blanks + "[]" + blanks + "{}" + blanks, keys("[]", "{}"), impl.Framer{}})
	framesAs(t, stream{blanks + "[" + blanks[:2998] + "]", keys("[" + blanks[:2998] + "]"), impl.Framer{}})
	framesAs(t, stream{"[" + blanks[:2999] + "]", nil, closed})
}

func TestDeepestMessages(t *testing.T) {
	for _, open := range []string{"[", "{"} {
		for _, shut := range []string{"]", "}"} {
			most := strings.Repeat(open, 12)
			ends := strings.Repeat(shut, 12)
			framesAs(t, stream{most, nil, within(most, 12)})
			framesAs(t, stream{most + ends + most + ends, keys(most+ends, most+ends), impl.Framer{}})
			framesAs(t, stream{most + shut + open, nil, within(most+shut+open, 12)})
			framesAs(t, stream{most + `"` + open, nil, quoted(most+`"`+open, 12)})
			framesAs(t, stream{most + open, nil, closed})
			framesAs(t, stream{most + open + shut, nil, closed})
			framesAs(t, stream{most + ends + most + open + shut + ends, keys(most + ends), closed})
			framesAs(t, stream{most + shut + open + open, nil, closed})
		}
	}
}

// wrongFramers are framers that no bytes make of a zero one.
func wrongFramers() map[string]impl.Framer {
	return map[string]impl.Framer{
		"nothing, one deep":              {Depth: 1},
		"nothing, -1 deep":               {Depth: -1},
		"nothing, within quotes":         {Quote: true},
		"nothing, skipping":              {Skip: true},
		"nothing, skipping in quotes":    {Quote: true, Skip: true},
		"a blank":                        {Buf: " "},
		"a blank ahead":                  within(" [", 1),
		"a blank, one deep":              within(" ", 1),
		"another byte":                   {Buf: "x"},
		"another byte, one deep":         within("x", 1),
		"another byte ahead":             within("x[", 1),
		"a quote":                        quoted(`"`, 0),
		"a bracket that closes":          {Buf: "]", Depth: -1},
		"a bracket that closes, nought":  {Buf: "]"},
		"a text that ended":              {Buf: "[]"},
		"a text that ended, one deep":    within("[]", 1),
		"a text that ended ahead":        within("[][", 1),
		"a text that ended and a blank":  within("[] [", 1),
		"a text that ended and no text":  {Buf: "[]x"},
		"a depth of nought":              {Buf: "["},
		"a depth that is more":           within("[", 2),
		"a depth that is less":           within("[[", 1),
		"a depth that is negative":       within("[", -1),
		"the greatest depth":             within("[", math.MaxInt),
		"the least depth":                within("[", math.MinInt),
		"13 deep":                        within(strings.Repeat("[", 13), 13),
		"12 deep, of 13":                 within(strings.Repeat("[", 13), 12),
		"13 deep, then 12":               within(strings.Repeat("[", 13)+"]", 12),
		"quotes without a quote":         quoted("[", 1),
		"quotes that were left":          quoted(`[""`, 1),
		"quotes that are not told":       within(`["`, 1),
		"quotes behind a byte 92":        within(`["\"`, 1),
		"a bracket within quotes":        quoted(`["[`, 2),
		"skipping outside quotes":        {Buf: `[\`, Depth: 1, Skip: true},
		"skipping without a byte 92":     skipping(`["`, 1),
		"skipping behind two":            skipping(`["\\`, 1),
		"skipping that is not told":      quoted(`["\`, 1),
		"skipping without quotes":        {Buf: `["\`, Depth: 1, Skip: true},
		"3001 bytes":                     within(filled("[", 3001), 1),
		"3001 bytes within quotes":       quoted(filled(`["`, 3001), 1),
		"more than MaxText bytes":        within(filled("[", impl.MaxText+1), 1),
		"many texts":                     {Buf: strings.Repeat("[]", 1<<20)},
		"closed with bytes":              {Buf: "[", Closed: true},
		"closed with a text's beginning": {Buf: "[", Depth: 1, Closed: true},
		"closed with a depth":            {Depth: 1, Closed: true},
		"closed with quotes":             {Quote: true, Closed: true},
		"closed with a skip":             {Skip: true, Closed: true},
	}
}

func TestWrongFramers(t *testing.T) {
	for name, f := range wrongFramers() {
		if impl.FramerOK(f) {
			t.Errorf("FramerOK of %s is true", name)
		}
		for _, piece := range []string{"", " ", "]", "[]", `"`, "x", strings.Repeat(" ", impl.MaxText)} {
			if g, ended, code := impl.Feed(f, piece); g != (impl.Framer{}) || len(ended) > 0 || code != impl.ErrBad {
				t.Errorf("Feed of %.20q to %s is %s, %.80q, %d", piece, name, told(g), ended, code)
			}
		}
	}
}

// Each field of a right framer hangs on its Buf, and Buf on where its text began.
func TestFramersWithOneFieldChanged(t *testing.T) {
	for _, s := range streams() {
		f := s.left
		if !impl.FramerOK(f) {
			t.Errorf("FramerOK(%s) is false", told(f))
		}
		for i, g := range []impl.Framer{f, f, f, f, f, f, f} {
			switch i {
			case 0:
				g.Depth++
			case 1:
				g.Depth--
			case 2:
				g.Quote = !g.Quote
			case 3:
				g.Skip = !g.Skip
			case 4:
				if g == (impl.Framer{}) || g == closed {
					continue
				}
				g.Closed = !g.Closed
			case 5:
				g.Buf = " " + g.Buf
			case 6:
				g.Buf = "[]" + g.Buf
			}
			if impl.FramerOK(g) {
				t.Errorf("FramerOK(%s) is true", told(g))
			}
			if h, ended, code := impl.Feed(g, "]"); h != (impl.Framer{}) || len(ended) > 0 || code != impl.ErrBad {
				t.Errorf("Feed to %s is %s, %.80q, %d", told(g), told(h), ended, code)
			}
		}
	}
}

func TestClosedFramers(t *testing.T) {
	if !impl.FramerOK(closed) {
		t.Error("FramerOK of a closed one is false")
	}
	for _, piece := range []string{"", " ", "[]", "]", "x", strings.Repeat("[]", impl.MaxText/2)} {
		if f, ended, code := impl.Feed(closed, piece); f != closed || len(ended) > 0 || code != impl.ErrClosed {
			t.Errorf("Feed of %.20q to a closed one is %s, %.80q, %d", piece, told(f), ended, code)
		}
	}
}

func TestWhatComesBehindTheClosingIsLost(t *testing.T) {
	want := stream{left: closed, ended: keys("[1]")}
	fedAs(t, want, "[1]]")
	fedAs(t, want, "[1]]", "[2]")
	fedAs(t, want, "[1]][2]", "[3]", " ", "", "[4]")
	fedAs(t, want, "[1]", "]", "[2]")
	fedAs(t, want, "[1", "]]", "[", "]")
	fedAs(t, stream{left: closed}, "x", "[]", "[]")
	fedAs(t, stream{left: closed}, strings.Repeat("[", 13), strings.Repeat("]", 13), "[]")
	fedAs(t, stream{left: closed}, filled("[", 3000), "]", "[]")
}

func TestLongStreams(t *testing.T) {
	most := strings.Repeat("[]", impl.MaxText/2)
	all := make([]string, impl.MaxText/2)
	for i := range all {
		all[i] = "[]"
	}
	framesAs(t, stream{most, all, impl.Framer{}})
	framesAs(t, stream{strings.Repeat(" ", impl.MaxText), nil, impl.Framer{}})
	for _, long := range []string{most + " ", most + "[", "x" + most, strings.Repeat("x", 3*impl.MaxText)} {
		if n, isClosed, code := impl.FrameText(long); n != 0 || isClosed || code != impl.ErrLong {
			t.Errorf("FrameText of %d bytes is %d, %v, %d", len(long), n, isClosed, code)
		}
		for _, f := range []impl.Framer{{}, within("[", 1), closed, {Buf: "x"}, within(filled("[", impl.MaxText+1), 1)} {
			if g, ended, code := impl.Feed(f, long); g != (impl.Framer{}) || len(ended) > 0 || code != impl.ErrLong {
				t.Errorf("Feed of %d bytes is %s, %d texts, %d", len(long), told(g), len(ended), code)
			}
		}
	}
}

func TestLongListsOfPieces(t *testing.T) {
	pieces := make([]string, impl.MaxList+1)
	ended := make([]string, impl.MaxList)
	for i := range ended {
		pieces[i], ended[i] = "[]", "[]"
	}
	fedAs(t, stream{left: impl.Framer{}, ended: ended}, pieces[:impl.MaxList]...)
	for _, last := range []string{"", "[]", "x"} {
		pieces[impl.MaxList] = last
		if f, list, code := impl.FeedAll(pieces); f != (impl.Framer{}) || len(list) > 0 || code != impl.ErrLong {
			t.Errorf("FeedAll of %d pieces is %s, %d texts, %d", len(pieces), told(f), len(list), code)
		}
	}
	pieces[0] = "x"
	if f, list, code := impl.FeedAll(pieces); f != (impl.Framer{}) || len(list) > 0 || code != impl.ErrLong {
		t.Errorf("FeedAll of %d pieces that close is %s, %d texts, %d", len(pieces), told(f), len(list), code)
	}
}

// A text within a list is bounded by what the chapter says of it alone, and that tells no bound of a piece.
func TestLongPiecesOfAList(t *testing.T) {
	blanks := strings.Repeat(" ", impl.MaxText)
	f, ended, code := impl.FeedAll(keys(blanks+"[1]", blanks+blanks+"[2]["))
	if f != within("[", 1) || !slices.Equal(ended, keys("[1]", "[2]")) || code != impl.OK {
		t.Errorf("FeedAll of long pieces is %s, %.80q, %d", told(f), ended, code)
	}
}
