package impl

import (
	"errors"
	"slices"
	"strconv"
	"strings"
)

const (
	JsNull = iota
	JsBool
	JsNumber
	JsText
	JsList
	JsObject
)

const (
	MaxNumber = 1000000000
	MaxDeep   = 12
	MaxNodes  = 400
)

const maxJsonText = 200

type Json struct {
	Kind, N int
	T       string
	Keys    []string
	Items   []Json
}

// JsonOK tells whether j is a right value.
func JsonOK(j Json) bool {
	return roomLeft(j, MaxDeep, MaxNodes) >= 0
}

// roomLeft answers how many of room values are left beside those of j, below 0 if j is not right.
// It never goes beyond room or deep, since a list that is handed in may hold itself.
func roomLeft(j Json, deep, room int) int {
	if deep == 0 || len(j.Items) >= room || !partOK(j) {
		return -1
	}
	room--
	for i := range j.Items {
		room = roomLeft(j.Items[i], deep-1, room)
		if room < 0 {
			return -1
		}
	}
	return room
}

// partOK tells whether j is right but for what its items are.
func partOK(j Json) bool {
	noNumber, noText, noKeys, noItems := j.N == 0, j.T == "", len(j.Keys) == 0, len(j.Items) == 0
	switch j.Kind {
	case JsNull:
		return noNumber && noText && noKeys && noItems
	case JsBool:
		return (j.N == 0 || j.N == 1) && noText && noKeys && noItems
	case JsNumber:
		return numberOK(j.N) && noText && noKeys && noItems
	case JsText:
		return noNumber && textOK(j.T) && noKeys && noItems
	case JsList:
		return noNumber && noText && noKeys
	case JsObject:
		return noNumber && noText && len(j.Keys) == len(j.Items) && keysOK(j.Keys)
	}
	return false
}

func numberOK(n int) bool {
	return n >= -MaxNumber && n <= MaxNumber
}

func textOK(t string) bool {
	if len(t) > maxJsonText {
		return false
	}
	for i := range len(t) {
		if t[i] < 32 || t[i] > 126 {
			return false
		}
	}
	return true
}

func keysOK(keys []string) bool {
	for i := range keys {
		if !textOK(keys[i]) || i > 0 && keys[i-1] >= keys[i] {
			return false
		}
	}
	return true
}

// PrintJson answers the text of a value.
func PrintJson(j Json) (string, int) {
	if !JsonOK(j) {
		return "", ErrBad
	}
	return string(appendJson(nil, j)), OK
}

func appendJson(to []byte, j Json) []byte {
	switch j.Kind {
	case JsNull:
		return append(to, "null"...)
	case JsBool:
		return strconv.AppendBool(to, j.N == 1)
	case JsNumber:
		return strconv.AppendInt(to, int64(j.N), 10)
	case JsText:
		return appendQuoted(to, j.T)
	case JsList:
		return append(appendItems(append(to, '['), j), ']')
	}
	return append(appendItems(append(to, '{'), j), '}')
}

func appendItems(to []byte, j Json) []byte {
	for i := range j.Items {
		if i > 0 {
			to = append(to, ',')
		}
		if j.Kind == JsObject {
			to = append(appendQuoted(to, j.Keys[i]), ':')
		}
		to = appendJson(to, j.Items[i])
	}
	return to
}

func appendQuoted(to []byte, t string) []byte {
	to = append(to, '"')
	for i := range len(t) {
		if t[i] == '"' || t[i] == '\\' {
			to = append(to, '\\')
		}
		to = append(to, t[i])
	}
	return append(to, '"')
}

// ParseJson answers the value of a text.
func ParseJson(t string) (Json, int) {
	if len(t) > MaxText {
		return Json{}, ErrLong
	}
	return parsed(t)
}

// parsed answers the value of a text, however long that is.
func parsed(t string) (j Json, code int) {
	defer func() {
		if recover() != nil {
			j, code = Json{}, ErrForm
		}
	}()
	r := jsonReader{text: t, room: MaxNodes}
	return r.whole(), OK
}

var errNoJson = errors.New("no text of a value")

// jsonReader reads a text from its place on; its methods panic with errNoJson at what is no text of a value.
// Room is how many more values there may be.
type jsonReader struct {
	text        string
	place, room int
}

func (r *jsonReader) whole() Json {
	r.passBlanks()
	j := r.value(MaxDeep)
	r.passBlanks()
	if r.place != len(r.text) {
		panic(errNoJson)
	}
	return j
}

// peek answers the next byte: 0 at the end, which no text of a value has.
func (r *jsonReader) peek() byte {
	if r.place == len(r.text) {
		return 0
	}
	return r.text[r.place]
}

func (r *jsonReader) next() byte {
	if r.place == len(r.text) {
		panic(errNoJson)
	}
	r.place++
	return r.text[r.place-1]
}

func (r *jsonReader) pass(what string) {
	if !strings.HasPrefix(r.text[r.place:], what) {
		panic(errNoJson)
	}
	r.place += len(what)
}

func (r *jsonReader) passBlanks() {
	for isBlank(r.peek()) {
		r.place++
	}
}

func isBlank(b byte) bool {
	return b == 32 || b == 9 || b == 10 || b == 13
}

// value reads a value. Deep is how many may be in one another from here on, this one counted.
func (r *jsonReader) value(deep int) Json {
	if deep == 0 || r.room == 0 {
		panic(errNoJson)
	}
	r.room--
	switch r.peek() {
	case 'n':
		r.pass("null")
		return Json{}
	case 'f':
		r.pass("false")
		return Json{Kind: JsBool}
	case 't':
		r.pass("true")
		return Json{Kind: JsBool, N: 1}
	case '"':
		return Json{Kind: JsText, T: r.quoted()}
	case '[':
		return r.list(deep)
	case '{':
		return r.object(deep)
	}
	return Json{Kind: JsNumber, N: r.number()}
}

// number reads digits and prints them again: what is printed otherwise is no number's text.
func (r *jsonReader) number() int {
	begin := r.place
	if r.peek() == '-' {
		r.place++
	}
	for isDigit(r.peek()) {
		r.place++
	}
	digits := r.text[begin:r.place]
	n, err := strconv.Atoi(digits)
	if err != nil || strconv.Itoa(n) != digits || !numberOK(n) {
		panic(errNoJson)
	}
	return n
}

func (r *jsonReader) quoted() string {
	r.pass("\"")
	var plain []byte
	for r.peek() != '"' {
		b := r.next()
		if b == '\\' {
			b = r.escaped()
		}
		plain = append(plain, b)
	}
	r.pass("\"")
	t := string(plain)
	if !textOK(t) {
		panic(errNoJson)
	}
	return t
}

func (r *jsonReader) escaped() byte {
	b := r.next()
	if b != '"' && b != '\\' && b != '/' {
		panic(errNoJson)
	}
	return b
}

func (r *jsonReader) list(deep int) Json {
	j := Json{Kind: JsList}
	r.pass("[")
	for r.more(len(j.Items), ']') {
		j.Items = append(j.Items, r.value(deep-1))
	}
	return j
}

// object puts each field in its place as it comes, so that one that comes twice is found at once.
func (r *jsonReader) object(deep int) Json {
	j := Json{Kind: JsObject}
	r.pass("{")
	for r.more(len(j.Items), '}') {
		key := r.quoted()
		place, twice := slices.BinarySearch(j.Keys, key)
		if twice {
			panic(errNoJson)
		}
		r.passBlanks()
		r.pass(":")
		r.passBlanks()
		item := r.value(deep - 1)
		j.Keys = slices.Insert(j.Keys, place, key)
		j.Items = slices.Insert(j.Items, place, item)
	}
	return j
}

// more passes on to the next item of a list or object that has had count of them, or beyond its end.
func (r *jsonReader) more(count int, end byte) bool {
	r.passBlanks()
	if r.peek() == end {
		r.place++
		return false
	}
	if count > 0 {
		r.pass(",")
		r.passBlanks()
	}
	return true
}

// JsonDepth answers how many lists and objects are in one another.
func JsonDepth(j Json) (int, int) {
	if !JsonOK(j) {
		return 0, ErrBad
	}
	return depthOf(j), OK
}

func depthOf(j Json) int {
	if j.Kind != JsList && j.Kind != JsObject {
		return 0
	}
	deepest := 0
	for i := range j.Items {
		deepest = max(deepest, depthOf(j.Items[i]))
	}
	return deepest + 1
}

// FieldOf answers the item of an object's key.
func FieldOf(j Json, name string) (Json, int) {
	if len(name) > MaxText {
		return Json{}, ErrLong
	}
	if !JsonOK(j) {
		return Json{}, ErrBad
	}
	if j.Kind != JsObject {
		return Json{}, ErrType
	}
	place, found := slices.BinarySearch(j.Keys, name)
	if !found {
		return Json{}, ErrNone
	}
	return copyJson(j.Items[place]), OK
}

// copyJson answers j in new memory.
func copyJson(j Json) Json {
	to := Json{Kind: j.Kind, N: j.N, T: j.T}
	if len(j.Keys) > 0 {
		to.Keys = slices.Clone(j.Keys)
	}
	for i := range j.Items {
		to.Items = append(to.Items, copyJson(j.Items[i]))
	}
	return to
}

// SameJson tells whether both are right and alike.
func SameJson(a, b Json) bool {
	return JsonOK(a) && JsonOK(b) && alikeJson(a, b)
}

func alikeJson(a, b Json) bool {
	return a.Kind == b.Kind && a.N == b.N && a.T == b.T && slices.Equal(a.Keys, b.Keys) && slices.EqualFunc(a.Items, b.Items, alikeJson)
}

// JsonNodes answers how many values there are, j itself counted.
func JsonNodes(j Json) (int, int) {
	room := roomLeft(j, MaxDeep, MaxNodes)
	if room < 0 {
		return 0, ErrBad
	}
	return MaxNodes - room, OK
}
