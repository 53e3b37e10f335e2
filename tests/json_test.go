package tests

import (
	"math"
	"strconv"
	"strings"
	"testing"

	"loop.example/g00524/impl"
)

func null() impl.Json { return impl.Json{} }

func truth(yes bool) impl.Json {
	if yes {
		return impl.Json{Kind: impl.JsBool, N: 1}
	}
	return impl.Json{Kind: impl.JsBool}
}

func number(n int) impl.Json { return impl.Json{Kind: impl.JsNumber, N: n} }

func text(s string) impl.Json { return impl.Json{Kind: impl.JsText, T: s} }

func list(items ...impl.Json) impl.Json { return impl.Json{Kind: impl.JsList, Items: items} }

func object(keys []string, items ...impl.Json) impl.Json {
	return impl.Json{Kind: impl.JsObject, Keys: keys, Items: items}
}

func keys(list ...string) []string { return list }

// nested answers j within so many lists (or objects).
func nested(j impl.Json, times int, objects bool) impl.Json {
	for range times {
		if objects {
			j = object(keys("k"), j)
		} else {
			j = list(j)
		}
	}
	return j
}

// numbers answers a list of so many numbers.
func numbers(count int) impl.Json {
	j := list()
	for i := range count {
		j.Items = append(j.Items, number(i))
	}
	return j
}

// fields answers an object of so many fields.
func fields(count int) impl.Json {
	j := object(nil)
	for i := range count {
		j.Keys = append(j.Keys, "k"+strconv.Itoa(1000+i))
		j.Items = append(j.Items, number(i))
	}
	return j
}

// printable answers all bytes that a text may have.
func printable() string {
	var b strings.Builder
	for i := 32; i <= 126; i++ {
		b.WriteByte(byte(i))
	}
	return b.String()
}

// sample is a right value, its text, and how deep and of how many values it is.
type sample struct {
	j          impl.Json
	text       string
	deep, many int
}

func samples() []sample {
	long := strings.Repeat("x", 200)
	quotes := strings.Repeat("\"", 200)
	return []sample{
		{null(), "null", 0, 1},
		{truth(true), "true", 0, 1},
		{truth(false), "false", 0, 1},
		{number(0), "0", 0, 1},
		{number(7), "7", 0, 1},
		{number(-7), "-7", 0, 1},
		{number(100), "100", 0, 1},
		{number(impl.MaxNumber), "1000000000", 0, 1},
		{number(-impl.MaxNumber), "-1000000000", 0, 1},
		{text(""), `""`, 0, 1},
		{text(" "), `" "`, 0, 1},
		{text("~"), `"~"`, 0, 1},
		{text("/"), `"/"`, 0, 1},
		{text("null"), `"null"`, 0, 1},
		{text("[1,2]"), `"[1,2]"`, 0, 1},
		{text(`a"b\c`), `"a\"b\\c"`, 0, 1},
		{text(`\"`), `"\\\""`, 0, 1},
		{text(long), `"` + long + `"`, 0, 1},
		{text(quotes), `"` + strings.Repeat(`\"`, 200) + `"`, 0, 1},
		{list(), "[]", 1, 1},
		{list(null()), "[null]", 1, 2},
		{list(list(), list(list())), "[[],[[]]]", 3, 4},
		{list(number(1), truth(false), text("")), `[1,false,""]`, 1, 4},
		{object(nil), "{}", 1, 1},
		{object(keys(""), null()), `{"":null}`, 1, 2},
		{object(keys("a", "ab", "b"), number(1), list(), object(nil)), `{"a":1,"ab":[],"b":{}}`, 2, 4},
		{object(keys("A", "_", "a"), number(1), number(2), number(3)), `{"A":1,"_":2,"a":3}`, 1, 4},
		{object(keys(`"`, `\`), number(1), number(2)), `{"\"":1,"\\":2}`, 1, 3},
		{object(keys(" ", "~"), number(1), number(2)), `{" ":1,"~":2}`, 1, 3},
		{object(keys(long), text(long)), `{"` + long + `":"` + long + `"}`, 1, 2},
		{nested(number(1), 11, false), strings.Repeat("[", 11) + "1" + strings.Repeat("]", 11), 11, 12},
		{nested(list(), 11, false), strings.Repeat("[", 12) + strings.Repeat("]", 12), 12, 12},
		{nested(object(nil), 11, true), strings.Repeat(`{"k":`, 11) + "{}" + strings.Repeat("}", 11), 12, 12},
	}
}

// wrongValues are values that break one rule each.
func wrongValues() map[string]impl.Json {
	long := strings.Repeat("x", 201)
	few, many := []impl.Json{{}}, []impl.Json{{}, {}}
	return map[string]impl.Json{
		"a kind below":               {Kind: -1},
		"a kind above":               {Kind: 6},
		"the least kind":             {Kind: math.MinInt},
		"the greatest kind":          {Kind: math.MaxInt},
		"null with a number":         {N: 1},
		"null with a text":           {T: "a"},
		"null with keys":             {Keys: keys("a")},
		"null with items":            {Items: few},
		"null with a field":          {Keys: keys("a"), Items: few},
		"a bool of 2":                {Kind: impl.JsBool, N: 2},
		"a bool of -1":               {Kind: impl.JsBool, N: -1},
		"a bool with a text":         {Kind: impl.JsBool, T: "true"},
		"a bool with keys":           {Kind: impl.JsBool, Keys: keys("a")},
		"a bool with items":          {Kind: impl.JsBool, Items: few},
		"a number above":             number(impl.MaxNumber + 1),
		"a number below":             number(-impl.MaxNumber - 1),
		"the greatest number":        number(math.MaxInt),
		"the least number":           number(math.MinInt),
		"a number with a text":       {Kind: impl.JsNumber, T: "1"},
		"a number with keys":         {Kind: impl.JsNumber, Keys: keys("a")},
		"a number with items":        {Kind: impl.JsNumber, Items: few},
		"a text of 201 bytes":        text(long),
		"a text with byte 31":        text("a\x1f"),
		"a text with byte 127":       text("a\x7f"),
		"a text with byte 0":         text("\x00"),
		"a text with byte 255":       text("\xff"),
		"a text with a letter of 2":  text("é"),
		"a text with a number":       {Kind: impl.JsText, N: 1},
		"a text with keys":           {Kind: impl.JsText, Keys: keys("a")},
		"a text with items":          {Kind: impl.JsText, Items: few},
		"a list with a number":       {Kind: impl.JsList, N: 1},
		"a list with a text":         {Kind: impl.JsList, T: "a"},
		"a list with keys":           {Kind: impl.JsList, Keys: keys("a"), Items: few},
		"an object with a number":    {Kind: impl.JsObject, N: 1},
		"an object with a text":      {Kind: impl.JsObject, T: "a"},
		"an object without items":    object(keys("a")),
		"an object without keys":     object(nil, few...),
		"an object with a key more":  object(keys("a", "b"), few...),
		"an object with a key less":  object(keys("a"), many...),
		"keys that fall":             object(keys("b", "a"), many...),
		"keys that come twice":       object(keys("a", "a"), many...),
		"keys twice, not together":   object(keys("a", "b", "a"), null(), null(), null()),
		"a key ahead of its start":   object(keys("ab", "a"), many...),
		"a key of 201 bytes":         object(keys(long), few...),
		"a key with byte 31":         object(keys("\x1f"), few...),
		"a key with byte 127":        object(keys("\x7f"), few...),
		"a later key with byte 127":  object(keys("a", "b\x7f"), many...),
		"a wrong value within":       list(null(), list(number(impl.MaxNumber+1))),
		"a wrong value in an object": object(keys("a"), impl.Json{Kind: 9}),
		"a number in 12 lists":       nested(number(1), 12, false),
		"a list in 12 lists":         nested(list(), 12, false),
		"a list in 12 objects":       nested(list(), 12, true),
		"a list in 100000 lists":     nested(list(), 100000, false),
		"a list of 400":              numbers(400),
		"an object of 400":           fields(400),
		"401 values in two lists":    list(numbers(199), numbers(199)),
		"a list of 100000":           numbers(100000),
	}
}

func TestRightValues(t *testing.T) {
	for _, s := range samples() {
		if !impl.JsonOK(s.j) {
			t.Errorf("JsonOK(%.60s) is false", s.text)
		}
		if got, code := impl.PrintJson(s.j); got != s.text || code != impl.OK {
			t.Errorf("PrintJson is %.60s, %d, not %.60s", got, code, s.text)
		}
		if got, code := impl.JsonDepth(s.j); got != s.deep || code != impl.OK {
			t.Errorf("JsonDepth(%.60s) is %d, %d", s.text, got, code)
		}
		if got, code := impl.JsonNodes(s.j); got != s.many || code != impl.OK {
			t.Errorf("JsonNodes(%.60s) is %d, %d", s.text, got, code)
		}
	}
}

func TestWrongValues(t *testing.T) {
	for name, j := range wrongValues() {
		if impl.JsonOK(j) {
			t.Errorf("JsonOK of %s is true", name)
		}
		if got, code := impl.PrintJson(j); got != "" || code != impl.ErrBad {
			t.Errorf("PrintJson of %s is %.40q, %d", name, got, code)
		}
		if got, code := impl.JsonDepth(j); got != 0 || code != impl.ErrBad {
			t.Errorf("JsonDepth of %s is %d, %d", name, got, code)
		}
		if got, code := impl.JsonNodes(j); got != 0 || code != impl.ErrBad {
			t.Errorf("JsonNodes of %s is %d, %d", name, got, code)
		}
		if got, code := impl.FieldOf(j, "a"); !zero(got) || code != impl.ErrBad {
			t.Errorf("FieldOf of %s is %v, %d", name, got, code)
		}
		if impl.SameJson(j, j) || impl.SameJson(j, null()) || impl.SameJson(null(), j) {
			t.Errorf("SameJson of %s is true", name)
		}
	}
}

func zero(j impl.Json) bool {
	return j.Kind == 0 && j.N == 0 && j.T == "" && len(j.Keys) == 0 && len(j.Items) == 0
}

func TestMostValues(t *testing.T) {
	for name, j := range map[string]impl.Json{
		"a list":    numbers(impl.MaxNodes - 1),
		"an object": fields(impl.MaxNodes - 1),
		"two lists": list(numbers(199), numbers(198)),
		"the last":  list(list(list(numbers(impl.MaxNodes - 4)))),
	} {
		if many, code := impl.JsonNodes(j); many != impl.MaxNodes || code != impl.OK || !impl.JsonOK(j) {
			t.Errorf("JsonNodes of %s is %d, %d", name, many, code)
		}
		printed, code := impl.PrintJson(j)
		if back, e := impl.ParseJson(printed); code != impl.OK || e != impl.OK || !impl.SameJson(back, j) {
			t.Errorf("%s of MaxNodes values is not read back: %d, %d", name, code, e)
		}
	}
	for name, many := range map[string]string{
		"a list":    "[0" + strings.Repeat(",0", impl.MaxNodes-1) + "]",
		"two lists": "[[0" + strings.Repeat(",0", 198) + "],[0" + strings.Repeat(",0", 198) + "]]",
	} {
		if j, code := impl.ParseJson(many); !zero(j) || code != impl.ErrForm {
			t.Errorf("ParseJson of %s of MaxNodes + 1 values is %d", name, code)
		}
	}
}

func TestDepthIsThatOfTheDeepest(t *testing.T) {
	a, b := nested(null(), 2, false), nested(null(), 4, true)
	for _, j := range []impl.Json{list(a, b), list(b, a), list(a, b, null()), object(keys("a", "b"), b, a)} {
		if deep, code := impl.JsonDepth(j); deep != 5 || code != impl.OK {
			t.Errorf("JsonDepth is %d, %d", deep, code)
		}
	}
}

func TestTextBytes(t *testing.T) {
	for b := range 256 {
		s := "a" + string([]byte{byte(b)}) + "c"
		right := b >= 32 && b <= 126
		if impl.JsonOK(text(s)) != right {
			t.Errorf("JsonOK of a text with byte %d is %v", b, !right)
		}
		if impl.JsonOK(object(keys(s), null())) != right {
			t.Errorf("JsonOK of a key with byte %d is %v", b, !right)
		}
		if b == '"' || b == '\\' {
			continue
		}
		j, code := impl.ParseJson(`"` + s + `"`)
		if right && (code != impl.OK || j.T != s) || !right && (code != impl.ErrForm || !zero(j)) {
			t.Errorf("ParseJson of a text with byte %d is %q, %d", b, j.T, code)
		}
	}
}

func TestFields(t *testing.T) {
	j := object(keys("", "a", "aa", "b"), number(1), list(number(2)), null(), text("x"))
	for i, name := range j.Keys {
		if got, code := impl.FieldOf(j, name); code != impl.OK || !impl.SameJson(got, j.Items[i]) {
			t.Errorf("FieldOf(%q) is %v, %d", name, got, code)
		}
	}
	most := strings.Repeat("a", impl.MaxText)
	for _, name := range []string{"A", "ab", "c", " ", "\x00", "\xff", most} {
		if got, code := impl.FieldOf(j, name); code != impl.ErrNone || !zero(got) {
			t.Errorf("FieldOf(%.20q) is %v, %d", name, got, code)
		}
	}
	for _, other := range []impl.Json{null(), truth(true), number(1), text("a"), list(number(1))} {
		if got, code := impl.FieldOf(other, "a"); code != impl.ErrType || !zero(got) {
			t.Errorf("FieldOf of kind %d is %v, %d", other.Kind, got, code)
		}
	}
	for _, any := range []impl.Json{j, null(), {Kind: 9}} {
		if got, code := impl.FieldOf(any, most+"a"); code != impl.ErrLong || !zero(got) {
			t.Errorf("FieldOf of a long name is %v, %d", got, code)
		}
	}
	if _, code := impl.FieldOf(object(nil), ""); code != impl.ErrNone {
		t.Errorf("FieldOf of an object without fields is %d", code)
	}
}

func TestSameValues(t *testing.T) {
	all := samples()
	for i, a := range all {
		for k, b := range all {
			if impl.SameJson(a.j, b.j) != (i == k) {
				t.Errorf("SameJson(%.40s, %.40s) is %v", a.text, b.text, i != k)
			}
		}
	}
	a := object(keys("a", "b"), number(1), list(number(2), number(3)))
	for _, b := range []impl.Json{
		object(keys("a", "c"), number(1), list(number(2), number(3))),
		object(keys("a", "b"), number(1), list(number(2), number(4))),
		object(keys("a", "b"), number(1), list(number(2))),
		object(keys("a"), number(1)),
		list(number(1), list(number(2), number(3))),
	} {
		if impl.SameJson(a, b) || impl.SameJson(b, a) {
			t.Errorf("SameJson(%v, %v) is true", a, b)
		}
	}
}
