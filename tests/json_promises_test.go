package tests

import (
	"bytes"
	"encoding/json"
	"io"
	"math/rand"
	"reflect"
	"slices"
	"strconv"
	"strings"
	"testing"

	"loop.example/g00524/impl"
)

// answers are those of all calls that take a value.
func answers(j impl.Json, name string) []any {
	printed, code := impl.PrintJson(j)
	deep, deepCode := impl.JsonDepth(j)
	many, manyCode := impl.JsonNodes(j)
	field, fieldCode := impl.FieldOf(j, name)
	return []any{impl.JsonOK(j), printed, code, deep, deepCode, many, manyCode, plain(field), fieldCode, impl.SameJson(j, j), impl.SameJson(j, null()), impl.SameJson(null(), j)}
}

// plain answers j with nil for all empty lists, so that alike ones are alike to reflect.
func plain(j impl.Json) impl.Json {
	to := impl.Json{Kind: j.Kind, N: j.N, T: j.T}
	to.Keys = append(to.Keys, j.Keys...)
	for _, item := range j.Items {
		to.Items = append(to.Items, plain(item))
	}
	return to
}

// roomy answers j with lists that have room behind their end, where something stands.
func roomy(j impl.Json) impl.Json {
	ks := append(append([]string{}, j.Keys...), "behind", "the end")
	items := []impl.Json{}
	for _, item := range j.Items {
		items = append(items, roomy(item))
	}
	items = append(items, text("behind"), number(9))
	j.Keys, j.Items = ks[:len(j.Keys)], items[:len(j.Items)]
	return j
}

// whole answers all that stands in the lists of j, behind their end too.
func whole(j impl.Json) impl.Json {
	to := impl.Json{Kind: j.Kind, N: j.N, T: j.T}
	to.Keys = append(to.Keys, j.Keys[:cap(j.Keys)]...)
	for _, item := range j.Items[:cap(j.Items)] {
		to.Items = append(to.Items, whole(item))
	}
	return to
}

func TestPromise1ArgumentsStay(t *testing.T) {
	for _, s := range samples() {
		j := roomy(s.j)
		ahead := whole(j)
		answers(j, "a")
		for _, key := range j.Keys {
			answers(j, key)
		}
		if !reflect.DeepEqual(ahead, whole(j)) {
			t.Errorf("%.60s was changed", s.text)
		}
	}
	for name, wrong := range wrongValues() {
		if strings.Contains(name, "100000") {
			continue
		}
		j := roomy(wrong)
		ahead := whole(j)
		answers(j, "a")
		if !reflect.DeepEqual(ahead, whole(j)) {
			t.Errorf("%s was changed", name)
		}
	}
}

func TestPromise1AlikeAnswers(t *testing.T) {
	for round := range 2 {
		for _, s := range samples() {
			first := answers(s.j, "a")
			impl.ParseJson("[1,{")
			impl.PrintJson(impl.Json{Kind: 9})
			if second := answers(plain(s.j), "a"); !reflect.DeepEqual(first, second) {
				t.Errorf("round %d: %.60s: %v, then %v", round, s.text, first, second)
			}
			if third := answers(roomy(s.j), "a"); !reflect.DeepEqual(first, third) {
				t.Errorf("round %d: %.60s with room: %v, then %v", round, s.text, first, third)
			}
			a, codeA := impl.ParseJson(s.text)
			impl.ParseJson(strings.Repeat("[", 40))
			b, codeB := impl.ParseJson(s.text)
			if codeA != codeB || !reflect.DeepEqual(plain(a), plain(b)) {
				t.Errorf("round %d: ParseJson(%.60s) is %v, then %v", round, s.text, a, b)
			}
		}
	}
}

func TestPromise1EmptyIsNil(t *testing.T) {
	for kind := impl.JsNull; kind <= impl.JsObject; kind++ {
		with := impl.Json{Kind: kind, Keys: []string{}, Items: []impl.Json{}}
		without := impl.Json{Kind: kind}
		if !reflect.DeepEqual(answers(with, "a"), answers(without, "a")) || !impl.JsonOK(with) {
			t.Errorf("kind %d: empty lists are not as nil", kind)
		}
		if !impl.SameJson(with, without) || !impl.SameJson(without, with) {
			t.Errorf("kind %d: SameJson of empty lists and nil is false", kind)
		}
	}
}

// spoil writes into all lists of j, behind their end too.
func spoil(j impl.Json) {
	for i := range j.Items {
		spoil(j.Items[i])
	}
	ks, items := j.Keys[:cap(j.Keys)], j.Items[:cap(j.Items)]
	for i := range ks {
		ks[i] = "spoilt"
	}
	for i := range items {
		items[i] = text("spoilt")
	}
}

func TestPromise1AnswersAreNew(t *testing.T) {
	inner := object(keys("x", "y"), list(number(1), number(2)), object(keys("z"), list(text("q"))))
	j := roomy(object(keys("a", "b"), inner, list(inner, inner)))
	ahead := whole(j)
	for _, name := range j.Keys {
		field, code := impl.FieldOf(j, name)
		again, _ := impl.FieldOf(j, name)
		spoil(field)
		if code != impl.OK || !reflect.DeepEqual(ahead, whole(j)) {
			t.Errorf("FieldOf(%q) shares memory with its argument", name)
		}
		if now, _ := impl.FieldOf(j, name); !reflect.DeepEqual(plain(again), plain(now)) {
			t.Errorf("two answers of FieldOf(%q) share memory", name)
		}
	}
	both, _ := impl.FieldOf(j, "b")
	spoil(both.Items[0])
	if !impl.SameJson(both.Items[1], inner) {
		t.Error("two lists of an answer of FieldOf share memory")
	}
	printed, _ := impl.PrintJson(list(inner, inner))
	read, _ := impl.ParseJson(printed)
	other, _ := impl.ParseJson(printed)
	spoil(read.Items[0])
	if !impl.SameJson(read.Items[1], inner) || !impl.SameJson(other, list(inner, inner)) {
		t.Error("lists of answers of ParseJson share memory")
	}
}

func TestPromise1EndsOnValuesThatHoldThemselves(t *testing.T) {
	ring := make([]impl.Json, 1)
	ring[0] = impl.Json{Kind: impl.JsList, Items: ring}
	wide := make([]impl.Json, 300)
	for i := range wide {
		wide[i] = impl.Json{Kind: impl.JsList, Items: wide}
	}
	fan := list()
	for range 11 {
		fan = list(fan, fan, fan, fan, fan, fan, fan, fan)
	}
	looped := []impl.Json{{}}
	looped[0] = object(keys("k"), looped...)
	looped[0].Items = looped
	for i, j := range []impl.Json{ring[0], wide[0], fan, looped[0], list(null(), ring[0])} {
		if impl.JsonOK(j) {
			t.Errorf("JsonOK of %d is true", i)
		}
		got := answers(j, "k")
		want := answers(impl.Json{Kind: 9}, "k")
		if !reflect.DeepEqual(got, want) {
			t.Errorf("the answers of %d are %v", i, got)
		}
	}
}

func TestPromise2Samples(t *testing.T) {
	for _, s := range samples() {
		readAs(t, s.text, s.j)
		readAs(t, "\n "+s.text+"\t\r", s.j)
	}
	all := printable()
	readBack(t, list(text(all), object(keys(all), text(all))))
}

// readBack tells that j is read back from its text, and its text from what was read.
func readBack(t *testing.T, j impl.Json) {
	t.Helper()
	printed, code := impl.PrintJson(j)
	if code != impl.OK {
		t.Errorf("PrintJson(%v) is %d", j, code)
		return
	}
	back, code := impl.ParseJson(printed)
	if code != impl.OK || !reflect.DeepEqual(plain(back), plain(j)) || !impl.SameJson(back, j) {
		t.Errorf("%s is read back as %v, %d", printed, back, code)
	}
	if again, _ := impl.PrintJson(back); again != printed {
		t.Errorf("%s is printed again as %s", printed, again)
	}
}

// A number that is cut may be one still; no other value's text may.
func TestPromise2CutTexts(t *testing.T) {
	for _, s := range samples() {
		if s.j.Kind == impl.JsNumber {
			continue
		}
		for i := range len(s.text) {
			refused(t, s.text[:i])
			refused(t, s.text[:i]+" ")
		}
		refused(t, s.text+s.text)
		refused(t, s.text+",")
	}
}

const letters = "ab\\\"/ ~[]{},:01-"

func someText(r *rand.Rand) string {
	var b strings.Builder
	for range r.Intn(6) {
		b.WriteByte(letters[r.Intn(len(letters))])
	}
	return b.String()
}

func someValue(r *rand.Rand, deep int) impl.Json {
	kind := r.Intn(6)
	if deep == 1 && kind >= impl.JsList {
		kind -= 3
	}
	switch kind {
	case impl.JsBool:
		return truth(r.Intn(2) == 1)
	case impl.JsNumber:
		return number([]int{0, 1, -1, 10, impl.MaxNumber, -impl.MaxNumber, r.Intn(2000) - 1000}[r.Intn(7)])
	case impl.JsText:
		return text(someText(r))
	case impl.JsList:
		j := list()
		for range r.Intn(4) {
			j.Items = append(j.Items, someValue(r, deep-1))
		}
		return j
	case impl.JsObject:
		j := object(nil)
		for range r.Intn(4) {
			j.Keys = append(j.Keys, someText(r))
		}
		slices.Sort(j.Keys)
		j.Keys = slices.Compact(j.Keys)
		for range j.Keys {
			j.Items = append(j.Items, someValue(r, deep-1))
		}
		return j
	}
	return null()
}

func TestPromise2SomeValues(t *testing.T) {
	r := rand.New(rand.NewSource(1))
	for range 5000 {
		readBack(t, someValue(r, 5))
	}
}

// reader is another one of values, by the library: it tells what ParseJson must answer.
type reader struct {
	*json.Decoder
	many int
}

func readOtherwise(s string) (impl.Json, bool) {
	for i := 0; i < len(s); i++ {
		if s[i] > 126 {
			return null(), false
		}
		if s[i] == '\\' {
			i++
			if i == len(s) || !strings.Contains("\"\\/", s[i:i+1]) {
				return null(), false
			}
		}
	}
	if !json.Valid([]byte(s)) {
		return null(), false
	}
	d := &reader{Decoder: json.NewDecoder(bytes.NewReader([]byte(s)))}
	d.UseNumber()
	j, ok := d.value(1)
	if _, err := d.Token(); !ok || err != io.EOF {
		return null(), false
	}
	return j, true
}

func (d *reader) value(deep int) (impl.Json, bool) {
	d.many++
	token, err := d.Token()
	if err != nil || deep > impl.MaxDeep || d.many > impl.MaxNodes {
		return null(), false
	}
	switch x := token.(type) {
	case bool:
		return truth(x), true
	case json.Number:
		n, err := strconv.Atoi(string(x))
		return number(n), err == nil && n >= -impl.MaxNumber && n <= impl.MaxNumber && x != "-0"
	case string:
		return text(x), len(x) <= 200
	case json.Delim:
		if x == '[' {
			return d.list(deep)
		}
		return d.object(deep)
	}
	return null(), true
}

func (d *reader) list(deep int) (impl.Json, bool) {
	j := list()
	for d.More() {
		item, ok := d.value(deep + 1)
		if !ok {
			return null(), false
		}
		j.Items = append(j.Items, item)
	}
	d.Token()
	return j, true
}

func (d *reader) object(deep int) (impl.Json, bool) {
	found := map[string]impl.Json{}
	for d.More() {
		key, _ := d.Token()
		item, ok := d.value(deep + 1)
		name := key.(string)
		if _, twice := found[name]; twice || !ok || len(name) > 200 {
			return null(), false
		}
		found[name] = item
	}
	d.Token()
	j := object(nil)
	for name := range found {
		j.Keys = append(j.Keys, name)
	}
	slices.Sort(j.Keys)
	for _, name := range j.Keys {
		j.Items = append(j.Items, found[name])
	}
	return j, true
}

// readAlike tells that both readers answer alike.
func readAlike(t *testing.T, s string) {
	t.Helper()
	want, ok := readOtherwise(s)
	if ok {
		readAs(t, s, want)
	} else {
		refused(t, s)
	}
}

func TestPromise2ShortTexts(t *testing.T) {
	var parts = []string{"[", "]", "{", "}", ",", ":", `"a"`, `"\/"`, "0", "-1", "-", " ", "null", "true"}
	texts := []string{""}
	for range 4 {
		longer := []string{}
		for _, s := range texts {
			for _, part := range parts {
				longer = append(longer, s+part)
			}
		}
		for _, s := range longer {
			readAlike(t, s)
			readAlike(t, `{"a":`+s+"}")
		}
		texts = longer
	}
}

func TestPromise2ChangedTexts(t *testing.T) {
	r := rand.New(rand.NewSource(2))
	const some = letters + "\n\t\r\x1f\x7f\x00n.e"
	for range 20000 {
		printed, _ := impl.PrintJson(someValue(r, 4))
		s := []byte(printed)
		for range 1 + r.Intn(2) {
			i, b := r.Intn(len(s)+1), some[r.Intn(len(some))]
			switch {
			case r.Intn(2) == 0 || i == len(s):
				s = slices.Insert(s, i, b)
			case r.Intn(2) == 0:
				s[i] = b
			default:
				s = slices.Delete(s, i, i+1)
			}
		}
		readAlike(t, string(s))
	}
}

// Two fields of one name, of a few names in all, so that many of these objects have one twice.
func TestPromise2SomeObjects(t *testing.T) {
	r := rand.New(rand.NewSource(3))
	names := []string{`""`, `"a"`, `"b"`, `"/"`, `"\/"`, `"\\"`, `"a\/"`, `"a/"`}
	for range 5000 {
		var parts []string
		for range r.Intn(6) {
			parts = append(parts, names[r.Intn(len(names))]+":"+strconv.Itoa(r.Intn(9)))
		}
		readAlike(t, "{"+strings.Join(parts, ",")+"}")
	}
}
