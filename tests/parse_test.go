package tests

import (
	"strings"
	"testing"

	"loop.example/g00524/impl"
)

// refused tells that a text is no value's.
func refused(t *testing.T, s string) {
	t.Helper()
	if j, code := impl.ParseJson(s); code != impl.ErrForm || !zero(j) {
		t.Errorf("ParseJson(%.80q) is %v, %d", s, j, code)
	}
}

// readAs tells that a text is the one of a value.
func readAs(t *testing.T, s string, want impl.Json) {
	t.Helper()
	if j, code := impl.ParseJson(s); code != impl.OK || !impl.SameJson(j, want) {
		t.Errorf("ParseJson(%.80q) is %v, %d, not %v", s, j, code, want)
	}
}

func TestWrongTexts(t *testing.T) {
	for _, s := range []string{
		"", " ", "\t\r\n", "n", "nul", "nulll", "Null", "tru", "TRUE", "fals", "falsee", "none", "x", "null null", "truefalse", "nulltrue",
		"-", "--1", "-0", "00", "01", "-01", "-00", "+1", "1.0", "1.", ".1", "1e3", "1E3", "0x1", "1_0", "1-", "1-1", "0 0", "1 2", "- 1", "1,", "1]",
		"1000000001", "-1000000001", "10000000000", "9223372036854775807", "9223372036854775808", "-9223372036854775809", strings.Repeat("9", 1000), strings.Repeat("0", 1000),
		`"`, `"a`, `a"`, `"a"b"`, `"""`, `'a'`, `"\`, `"\"`, `"\a"`, `"\n"`, `"\b"`, `"\u0041"`, `"\ "`, "\"\\\x00\"", `"a" "b"`, "\"\n\"", "\"\t\"",
		"[", "]", "[[]", "[]]", "[,]", "[1,]", "[,1]", "[1,,2]", "[1 2]", "[1;2]", "[1:2]", "[}", "{]", "[1}", "[ ", "[1,", `["a":1]`, "()",
		"{", "}", "{}}", "{{}}", `{"a"}`, `{"a":}`, `{:1}`, `{a:1}`, `{1:1}`, `{null:1}`, `{"a":1,}`, `{,"a":1}`, `{"a":1,,"b":2}`, `{"a":1 "b":2}`, `{"a" 1}`, `{"a"::1}`, `{"a":1:2}`, `{"a":1]`, `{"a":1`, `{"a":`, `{"a"`, `{"a`, `{"\n":1}`,
		"[1]//", "/**/1", "\xef\xbb\xbf1", "1\x00", "\x001", "\x0b1", "1\x0c", "\u00a01", "[1\u2028]",
	} {
		refused(t, s)
	}
}

func TestFieldsThatComeTwice(t *testing.T) {
	for _, s := range []string{
		`{"a":1,"a":1}`, `{"a":1,"a":2}`, `{"a":1,"b":2,"a":3}`, `{"b":1,"a":2,"b":3}`, `{"c":0,"b":0,"a":0,"b":0}`,
		`{"":1,"":2}`, `{"/":1,"\/":2}`, `{"\\":1,"\\":2}`, `{"\"":1,"\"":2}`, `[{"a":1,"a":1}]`, `{"x":{"a":[],"a":[]}}`, `{"a": 1 , "a" : 1}`,
	} {
		refused(t, s)
	}
	readAs(t, `{"a":{"a":1},"b":{"a":1}}`, object(keys("a", "b"), object(keys("a"), number(1)), object(keys("a"), number(1))))
	readAs(t, `{"A":1,"a":2}`, object(keys("A", "a"), number(1), number(2)))
	readAs(t, `{"/":1,"\\/":2}`, object(keys("/", `\/`), number(1), number(2)))
}

func TestFieldsInAnyOrder(t *testing.T) {
	parts := []string{`"":0`, `"a":1`, `"ab":2`, `"b":3`}
	want := object(keys("", "a", "ab", "b"), number(0), number(1), number(2), number(3))
	for i := range parts {
		for k := range parts {
			turned := append([]string{}, parts...)
			turned[i], turned[k] = turned[k], turned[i]
			for range turned {
				turned = append(turned[1:], turned[0])
				readAs(t, "{"+strings.Join(turned, ",")+"}", want)
			}
		}
	}
}

func TestEscapes(t *testing.T) {
	readAs(t, `"\/"`, text("/"))
	readAs(t, `"/"`, text("/"))
	readAs(t, `"\\"`, text(`\`))
	readAs(t, `"\""`, text(`"`))
	readAs(t, `"\\\"\/"`, text(`\"/`))
	readAs(t, `"\\n"`, text(`\n`))
	readAs(t, `{"\/\\\"":1}`, object(keys(`/\"`), number(1)))
	for b := range 256 {
		if b != '"' && b != '\\' && b != '/' {
			refused(t, "\"\\"+string([]byte{byte(b)})+"\"")
		}
	}
}

func TestTextsOf200Bytes(t *testing.T) {
	x := strings.Repeat("x", 200)
	readAs(t, `"`+x+`"`, text(x))
	readAs(t, `{"`+x+`":1}`, object(keys(x), number(1)))
	refused(t, `"`+x+`x"`)
	refused(t, `{"`+x+`x":1}`)
	for _, escaped := range []string{`\"`, `\\`, `\/`} {
		all := strings.Repeat(escaped, 200)
		readAs(t, `"`+all+`"`, text(strings.Repeat(escaped[1:], 200)))
		refused(t, `"`+all+escaped+`"`)
	}
}

func TestDeepTexts(t *testing.T) {
	lists := func(within string, times int) string {
		return strings.Repeat("[", times) + within + strings.Repeat("]", times)
	}
	objects := func(within string, times int) string {
		return strings.Repeat(`{"k":`, times) + within + strings.Repeat("}", times)
	}
	for _, within := range []string{"1", "null", `"a"`, "[]", "{}"} {
		inner, _ := impl.ParseJson(within)
		readAs(t, lists(within, 11), nested(inner, 11, false))
		readAs(t, objects(within, 11), nested(inner, 11, true))
		readAs(t, "[1,"+lists(within, 10)+",2]", list(number(1), nested(inner, 10, false), number(2)))
		refused(t, lists(within, 12))
		refused(t, objects(within, 12))
		refused(t, "[1,"+objects(within, 11)+"]")
	}
	refused(t, strings.Repeat("[", impl.MaxText))
	refused(t, strings.Repeat(`{"":`, impl.MaxText/4))
}

func TestLongTexts(t *testing.T) {
	blanks := strings.Repeat(" ", impl.MaxText-1)
	readAs(t, blanks+"1", number(1))
	readAs(t, "1"+blanks, number(1))
	refused(t, blanks+" ")
	refused(t, strings.Repeat("9", impl.MaxText))
	refused(t, `"`+strings.Repeat("a", impl.MaxText-2)+`"`)
	for _, s := range []string{blanks + " 1", "1 " + blanks, blanks + "  ", strings.Repeat("[", impl.MaxText+1), strings.Repeat("x", 3*impl.MaxText)} {
		if j, code := impl.ParseJson(s); code != impl.ErrLong || !zero(j) {
			t.Errorf("ParseJson of %d bytes is %v, %d", len(s), j, code)
		}
	}
}

func TestBlanks(t *testing.T) {
	parts := strings.Fields(`{ "a" : [ 1 , -2 , [ ] , null ] , "b" : { } , "c" : { "d" : true } }`)
	want := object(keys("a", "b", "c"), list(number(1), number(-2), list(), null()), object(nil), object(keys("d"), truth(true)))
	for _, blank := range []string{"", " ", "\t", "\n", "\r", " \t\r\n ", "   "} {
		readAs(t, blank+strings.Join(parts, blank)+blank, want)
	}
	for b := range 256 {
		other := string([]byte{byte(b)})
		right := strings.Contains(" \t\n\r", other)
		for i := range len(parts) + 1 {
			s := strings.Join(parts[:i], "") + other + strings.Join(parts[i:], "")
			if right {
				readAs(t, s, want)
			} else if b < 32 || b > 126 {
				refused(t, s)
			}
		}
	}
	for _, s := range []string{"n ull", "tru e", "fal\nse", "- 1", "1 0", "-\t5", "[1 0]", "\"\\ \"\"", "{\"a\"\v:1}"} {
		refused(t, s)
	}
	readAs(t, `" a "`, text(" a "))
}
