package tests

import (
	"encoding/json"
	"fmt"
	"maps"
	"math/rand"
	"reflect"
	"slices"
	"strings"
	"sync"
	"testing"

	"loop.example/g00524/impl"
)

// meant answers what a right value says, as another reader has it: nil, bools, float64s, strings, lists and maps.
func meant(j impl.Json) any {
	var v any
	printed, _ := impl.PrintJson(j)
	if err := json.Unmarshal([]byte(printed), &v); err != nil {
		panic(err)
	}
	return v
}

// What the chapter says of atoms, sets, rows, operations, requests and monitors, told once more.
func atomMeant(v any) (impl.Atom, bool) {
	switch x := v.(type) {
	case float64:
		return intAtom(int(x)), true
	case string:
		return textAtom(x), true
	case bool:
		return boolAtom(map[bool]int{true: 1}[x]), true
	}
	words, _ := v.([]any)
	if len(words) != 2 || words[0] != "uuid" {
		return impl.Atom{}, false
	}
	n, isNumber := words[1].(float64)
	if !isNumber || n < 1 || n > 1000000 {
		return impl.Atom{}, false
	}
	return idAtom(int(n)), true
}

// setMeant answers the items of a value `["set",[...]]`.
func setMeant(v any) ([]any, bool) {
	words, _ := v.([]any)
	if len(words) != 2 || words[0] != "set" {
		return nil, false
	}
	items, isList := words[1].([]any)
	return items, isList
}

func datumMeant(v any) ([]impl.Atom, bool) {
	items, isSet := setMeant(v)
	if !isSet {
		items = []any{v}
	}
	var all []impl.Atom
	for _, item := range items {
		a, isAtom := atomMeant(item)
		if !isAtom || len(all) > 0 && all[0].Kind != a.Kind {
			return nil, false
		}
		all = append(all, a)
	}
	d := sortedOnce(all)
	if len(d) > 8 {
		return nil, false
	}
	return d, true
}

func nameMeant(v any) (string, bool) {
	words, _ := v.([]any)
	if len(words) != 2 || words[0] != "named-uuid" {
		return "", false
	}
	name, isText := words[1].(string)
	return name, isText
}

func cellMeant(v any) (impl.Set, bool) {
	if name, isName := nameMeant(v); isName {
		return naming("", name), true
	}
	if d, isDatum := datumMeant(v); isDatum {
		return set("", d...), true
	}
	items, isSet := setMeant(v)
	var names []string
	for _, item := range items {
		name, isName := nameMeant(item)
		if !isName {
			return impl.Set{}, false
		}
		names = append(names, name)
	}
	return naming("", names...), isSet
}

func rowMeant(v any) ([]impl.Set, bool) {
	f, isObject := v.(map[string]any)
	var list []impl.Set
	for _, column := range slices.Sorted(maps.Keys(f)) {
		x, isCell := cellMeant(f[column])
		if !isCell {
			return nil, false
		}
		x.Column = column
		list = append(list, x)
	}
	return list, isObject
}

// eachMeant answers each item of a list as something.
func eachMeant[T any](v any, each func(v any) (T, bool)) ([]T, bool) {
	items, isList := v.([]any)
	var list []T
	for _, item := range items {
		x, isOne := each(item)
		if !isOne {
			return nil, false
		}
		list = append(list, x)
	}
	return list, isList
}

func textMeant(v any) (string, bool) {
	s, isText := v.(string)
	return s, isText
}

func boolMeant(v any) (bool, bool) {
	is, isBool := v.(bool)
	return is, isBool
}

func condMeant(v any) (impl.Cond, bool) {
	words, _ := v.([]any)
	if len(words) != 3 {
		return impl.Cond{}, false
	}
	column, isColumn := words[0].(string)
	word, isWord := words[1].(string)
	d, isDatum := datumMeant(words[2])
	function := slices.Index([]string{"", "==", "!=", "<", "<=", ">", ">=", "includes", "excludes"}, word)
	return cond(column, function, d...), isColumn && isWord && isDatum && function > 0
}

func mutMeant(v any) (impl.Mut, bool) {
	words, _ := v.([]any)
	if len(words) != 3 {
		return impl.Mut{}, false
	}
	column, isColumn := words[0].(string)
	word, isWord := words[1].(string)
	d, isDatum := datumMeant(words[2])
	function := slices.Index([]string{"", "+=", "-=", "*=", "/=", "%=", "insert", "delete"}, word)
	return mut(column, function, d...), isColumn && isWord && isDatum && function > 0
}

func opMeant(v any) (impl.Op, bool) {
	f, _ := v.(map[string]any)
	word, isText := f["op"].(string)
	o := impl.Op{Kind: slices.Index(kindWords(), word)}
	right := isText && o.Kind > 0
	for key, x := range f {
		is := true
		switch key {
		case "op":
		case "table":
			o.Table, is = textMeant(x)
			is = is && o.Table != ""
		case "where":
			o.Where, is = eachMeant(x, condMeant)
		case "row":
			o.Row, is = rowMeant(x)
		case "mutations":
			o.Muts, is = eachMeant(x, mutMeant)
		case "columns":
			o.Columns, is = eachMeant(x, textMeant)
		case "until":
			o.Until, is = x == "==", x == "==" || x == "!="
		default:
			own, has := nameKeys()[o.Kind]
			o.Name, is = textMeant(x)
			is = is && has && key == own
		}
		right = right && is
	}
	if !right || !impl.OpOK(o) {
		return impl.Op{}, false
	}
	return o, true
}

func requestMeant(j impl.Json) (impl.Request, bool) {
	f, _ := meant(j).(map[string]any)
	id, hasId := f["id"].(float64)
	method, hasMethod := f["method"].(string)
	_, hasParams := f["params"].([]any)
	if len(f) != 3 || !hasId || !hasMethod || !hasParams {
		return impl.Request{}, false
	}
	params, _ := impl.FieldOf(j, "params")
	return impl.Request{Id: int(id), Method: method, Params: params.Items}, true
}

func monitorMeant(name string, v any) (impl.Monitor, bool) {
	f, _ := v.(map[string]any)
	m := impl.Monitor{Name: name, Initial: true, Insert: true, Delete: true, Modify: true}
	right := true
	for key, x := range f {
		is := false
		switch key {
		case "table":
			m.Table, is = textMeant(x)
		case "columns":
			m.Columns, is = eachMeant(x, textMeant)
		case "where":
			m.Where, is = eachMeant(x, condMeant)
		case "initial":
			m.Initial, is = boolMeant(x)
		case "insert":
			m.Insert, is = boolMeant(x)
		case "delete":
			m.Delete, is = boolMeant(x)
		case "modify":
			m.Modify, is = boolMeant(x)
		}
		right = right && is
	}
	if _, code := impl.MonitorCode(impl.PlainSchema(), m); !right || m.Table == "" || code != impl.OK {
		return impl.Monitor{}, false
	}
	return m, true
}

// codeMeant is the code of a right value of which something can be read, or can't.
func codeMeant(isOne bool) int {
	if isOne {
		return impl.OK
	}
	return impl.ErrForm
}

// readsAsMeant tells that a right value is read by all calls as the document says, and answers which could read it.
func readsAsMeant(t *testing.T, what string, j impl.Json) [5]bool {
	t.Helper()
	v := meant(j)
	a, isAtom := atomMeant(v)
	jsonAtomIs(t, what, j, a, codeMeant(isAtom))
	d, isDatum := datumMeant(v)
	jsonDatumIs(t, what, j, d, codeMeant(isDatum))
	o, isOp := opMeant(v)
	jsonOpIs(t, what, j, o, codeMeant(isOp))
	q, isRequest := requestMeant(j)
	requestIs(t, what, j, q, codeMeant(isRequest))
	m, isMonitor := monitorMeant("m", v)
	jsonMonitorIs(t, what, "m", j, m, codeMeant(isMonitor))
	return [5]bool{isAtom, isDatum, isOp, isRequest, isMonitor}
}

// atomReadBack tells that an atom is read back from its value, and from that value's text.
func atomReadBack(t *testing.T, a impl.Atom) {
	t.Helper()
	j, code := impl.AtomJson(a)
	if !impl.JsonOK(j) || code != impl.OK {
		t.Errorf("AtomJson(%s) is %s, %d", brief(a), brief(j), code)
	}
	jsonAtomIs(t, "read back", j, a, impl.OK)
	printed, _ := impl.PrintJson(j)
	jsonAtomIs(t, "read back from its text", said(printed), a, impl.OK)
	one, _ := impl.DatumJson(atoms(a))
	if !impl.SameJson(one, j) {
		t.Errorf("DatumJson of %s alone is %s", brief(a), brief(one))
	}
	datumReadBack(t, atoms(a))
}

// datumReadBack tells that a set is read back from its value, also with its atoms in other orders and twice.
func datumReadBack(t *testing.T, d []impl.Atom) {
	t.Helper()
	j, code := impl.DatumJson(d)
	if !impl.JsonOK(j) || code != impl.OK {
		t.Errorf("DatumJson(%s) is %s, %d", brief(d), brief(j), code)
	}
	jsonDatumIs(t, "read back", j, d, impl.OK)
	items := list()
	for _, a := range d {
		item, _ := impl.AtomJson(a)
		items.Items = append(items.Items, item)
	}
	jsonDatumIs(t, "in a list", list(text("set"), items), d, impl.OK)
	for cut := range items.Items {
		turned := list(append(slices.Clone(items.Items[cut:]), items.Items[:cut]...)...)
		jsonDatumIs(t, "turned", list(text("set"), turned), d, impl.OK)
		turned.Items = append(turned.Items, turned.Items[:cut+1]...)
		jsonDatumIs(t, "some twice", list(text("set"), turned), d, impl.OK)
		slices.Reverse(turned.Items)
		jsonDatumIs(t, "some twice, backward", list(text("set"), turned), d, impl.OK)
	}
}

func TestPromise14Atoms(t *testing.T) {
	for _, a := range risingAtoms() {
		atomReadBack(t, a)
	}
	for b := 32; b <= 126; b++ {
		atomReadBack(t, textAtom(string([]byte{byte(b)})))
		atomReadBack(t, textAtom("a"+string([]byte{byte(b)})+"\\"))
	}
	r := rand.New(rand.NewSource(14))
	for range 4000 {
		atomReadBack(t, []impl.Atom{intAtom(r.Intn(2000000001) - 1000000000), textAtom(someText(r)), boolAtom(r.Intn(2)), idAtom(1 + r.Intn(1000000))}[r.Intn(4)])
	}
	words := []string{"uuid", "named-uuid", "set", "null", "true", "7", `["uuid",7]`, `["set",[]]`, "{}"}
	for _, word := range words {
		atomReadBack(t, textAtom(word))
	}
}

func TestPromise14Sets(t *testing.T) {
	for _, d := range rightSets() {
		datumReadBack(t, d)
	}
	for _, some := range fewAtoms() {
		for _, d := range eachSubset(sortedOnce(some)) {
			datumReadBack(t, d)
			eachOrder(slices.Clone(d), func(turned []impl.Atom) {
				items := list()
				for _, a := range turned {
					item, _ := impl.AtomJson(a)
					items.Items = append(items.Items, item)
				}
				jsonDatumIs(t, "in any order", list(text("set"), items), d, impl.OK)
			})
		}
	}
	r := rand.New(rand.NewSource(141))
	for range 4000 {
		datumReadBack(t, someWideSet(r))
	}
}

// someWideSet answers a set of up to eight atoms, mostly of many.
func someWideSet(r *rand.Rand) []impl.Atom {
	var some []impl.Atom
	kind := 1 + r.Intn(4)
	for range r.Intn(9) {
		some = append(some, someAtom(r, kind, 20))
	}
	return sortedOnce(some)
}

// A row's cells are read back by their names: of a name that comes twice the last one.
func TestPromise14Rows(t *testing.T) {
	r := rand.New(rand.NewSource(142))
	for range 3000 {
		var columns []string
		var cells [][]impl.Atom
		for range r.Intn(7) {
			columns = append(columns, []string{"a", "b", "_uuid", "name", "B", "a0"}[r.Intn(6)])
			cells = append(cells, someWideSet(r))
		}
		x := row(1+r.Intn(9), cells...)
		rowJsonIs(t, "some row", columns, x, rowTold(columns, x), impl.OK)
		j, _ := impl.RowJson(columns, x)
		for i, name := range columns {
			field, code := impl.FieldOf(j, name)
			if code != impl.OK {
				t.Errorf("RowJson(%s, %s) has no %s", brief(columns), brief(x), name)
			}
			if !slices.Contains(columns[i+1:], name) {
				jsonDatumIs(t, "a cell", field, cells[i], impl.OK)
			}
		}
	}
}

// byColumns puts the sets of an operation in the order of their columns, each column once: so an object has them.
func byColumns(o impl.Op) impl.Op {
	last := map[string]impl.Set{}
	for _, x := range o.Row {
		last[x.Column] = x
	}
	o.Row = nil
	for _, column := range slices.Sorted(maps.Keys(last)) {
		o.Row = append(o.Row, last[column])
	}
	return o
}

// opReadBack tells that an operation is read back from its value, with some of what is empty told and some not, and that
// there is none with a field more.
func opReadBack(t *testing.T, r *rand.Rand, o impl.Op) {
	t.Helper()
	f := opFields(o)
	for _, key := range f.emptyFields() {
		if r.Intn(2) == 0 {
			delete(f, key)
		}
	}
	j := f.whole()
	jsonOpIs(t, "read back", j, o, impl.OK)
	printed, _ := impl.PrintJson(j)
	jsonOpIs(t, "read back from its text", said(printed), o, impl.OK)
	for _, key := range []string{"x", "", "uuid-name", "comment", "lock", "id"} {
		if key != nameKeys()[o.Kind] || key == "" {
			jsonOpIs(t, "a field more", f.with(key, text("")).whole(), impl.Op{}, impl.ErrForm)
		}
	}
	for key, told := range map[string]string{"T": `{"table":"t"}`, "W": `{"where":[["a","==",1]]}`, "R": `{"row":{"a":1}}`, "M": `{"mutations":[["a","insert",1]]}`, "C": `{"columns":["a"]}`, "U": `{"until":"=="}`} {
		if uses, _ := partsOf(o.Kind); !strings.Contains(uses, key) {
			more := said(told)
			jsonOpIs(t, "a part more", f.with(more.Keys[0], more.Items[0]).whole(), impl.Op{}, impl.ErrForm)
		}
	}
}

func TestPromise14Operations(t *testing.T) {
	r := rand.New(rand.NewSource(143))
	kinds := map[int]int{}
	for range 400 {
		s := schema(someAskedTable(r, "a"), someAskedTable(r, "b"))
		for range 15 {
			o := byColumns(someOp(r, s))
			opReadBack(t, r, o)
			kinds[o.Kind]++
		}
	}
	for _, o := range fullOps() {
		for range 20 {
			opReadBack(t, r, o)
		}
	}
	if len(kinds) != 10 {
		t.Errorf("kinds %v", kinds)
	}
}

// otherValues are what stands in values of this chapter, and what does not.
func otherValues() []impl.Json {
	var all []impl.Json
	for _, told := range []string{
		"null", "true", "false", "0", "1", "-1", "1000001", `""`, `"a"`, `"t"`, `"uuid"`, `"named-uuid"`, `"set"`, `"9"`, `"=="`, `"!="`, `"<"`, `"+="`, `"insert"`, `"delete"`, `"mutate"`, `"wait"`, `"comment"`, "[]", "{}", `[1]`, `["a"]`, `["a","==",1]`, `["a","-=",2]`, `[["a","!=","x"]]`,
		`["uuid",1]`, `["uuid",0]`, `["uuid",1000000]`, `["named-uuid","p"]`, `["named-uuid","9"]`, `["set",[]]`, `["set",[2,1]]`, `["set",["a","a"]]`, `["set",[["uuid",2],["uuid",1]]]`, `["set",[["named-uuid","p"],["named-uuid","q"]]]`, `["set",[1,"a"]]`, `{"a":1}`, `{"a":["named-uuid","p"],"b":["set",[]]}`, `{"op":"commit"}`,
	} {
		all = append(all, said(told))
	}
	return append(all, text(strings.Repeat("a", 40)), text(strings.Repeat("a", 41)))
}

// spoiltValue makes a value another one in one place; it stays right most often.
func spoiltValue(r *rand.Rand, j impl.Json, others []impl.Json) impl.Json {
	other := others[r.Intn(len(others))]
	made := impl.Json{Kind: j.Kind, N: j.N, T: j.T, Keys: slices.Clone(j.Keys), Items: slices.Clone(j.Items)}
	if len(j.Items) == 0 && (j.Kind < impl.JsList || r.Intn(3) == 0) {
		return other
	}
	i := r.Intn(len(j.Items) + 1)
	if i < len(j.Items) && r.Intn(3) > 0 {
		made.Items[i] = spoiltValue(r, j.Items[i], others)
		return made
	}
	if i < len(j.Items) && r.Intn(3) == 0 {
		made.Items[i] = other
		return made
	}
	if j.Kind == impl.JsObject {
		f := fieldsTold{}
		for k, key := range j.Keys {
			f[key] = j.Items[k]
		}
		key := []string{"", "a", "b", "id", "op", "table", "where", "row", "mutations", "columns", "until", "uuid-name", "comment", "lock", "method", "params", "initial", "insert", "delete", "modify", "x"}[r.Intn(21)]
		if i < len(j.Keys) {
			f = f.without(j.Keys[i])
		}
		if i == len(j.Keys) || r.Intn(2) == 0 {
			f = f.with(key, other)
		}
		return f.whole()
	}
	if i < len(j.Items) && r.Intn(2) == 0 {
		made.Items = slices.Delete(made.Items, i, i+1)
		return made
	}
	if i < len(j.Items) && r.Intn(2) == 0 {
		other = j.Items[i]
	}
	made.Items = slices.Insert(made.Items, r.Intn(len(j.Items)+1), other)
	return made
}

// Values that are nearly something are read by all calls as the document says.
func TestPromise14SpoiltValues(t *testing.T) {
	r := rand.New(rand.NewSource(144))
	others := otherValues()
	begun := slices.Clone(others)
	for _, o := range fullOps() {
		for range 5 {
			begun = append(begun, opFields(o).whole(), fieldsTold{"op": text(kindWords()[o.Kind])}.whole())
		}
	}
	for _, told := range []string{`{"id":1,"method":"a","params":[]}`, `{"id":-7,"method":"transact","params":[{"op":"commit"},{"op":"insert","row":{"a":1},"table":"t"}]}`, `{"table":"t"}`, `{"columns":["a","b"],"delete":true,"initial":false,"insert":false,"modify":true,"table":"t","where":[["a","==",1],["_uuid","includes",["set",[["uuid",1],["uuid",2]]]]]}`} {
		begun = append(begun, slices.Repeat([]impl.Json{said(told)}, 12)...)
	}
	read, unread := [5]int{}, [5]int{}
	for range 40000 {
		first := begun[r.Intn(len(begun))]
		for i, was := range readsAsMeant(t, "a value", first) {
			if was {
				unread[i]++
			}
		}
		j := spoiltValue(r, first, others)
		if r.Intn(3) == 0 {
			j = spoiltValue(r, j, others)
		}
		if !impl.JsonOK(j) {
			continue
		}
		for i, is := range readsAsMeant(t, "a spoilt value", j) {
			if is {
				read[i]++
				unread[i]--
			}
		}
		if t.Failed() {
			return
		}
	}
	for i := range read {
		if read[i] < 500 || unread[i] < 500 {
			t.Errorf("read by the calls %v, not any more %v", read, unread)
		}
	}
}

// Operations that are told and read back do in a store what they did.
func TestPromise14Transactions(t *testing.T) {
	r := rand.New(rand.NewSource(145))
	for range 60 {
		s := someSchema(r)
		x, _ := impl.NewStore(s)
		for range 12 {
			var given, back []impl.Op
			for _, o := range someTxn(r, s, x) {
				o = byColumns(o)
				again, code := impl.JsonOp(opFields(o).whole())
				if code != impl.OK {
					t.Errorf("JsonOp of %s is %d", brief(o), code)
				}
				given, back = append(given, o), append(back, again)
			}
			y, results, code := impl.Transact(s, x, given, []string{"lock"})
			z, backResults, backCode := impl.Transact(s, x, back, []string{"lock"})
			if !impl.SameStore(y, z) || !alike(results, backResults) || code != backCode {
				t.Errorf("%s does other things than %s", brief(given), brief(back))
			}
			resultsAreTold(t, given, results)
			x = y
		}
	}
}

// resultsAreTold tells that each result of a transaction is told as the document says.
func resultsAreTold(t *testing.T, given []impl.Op, results []impl.Result) {
	t.Helper()
	for i, x := range results {
		kind := impl.OpCommit
		if i < len(given) {
			kind = given[i].Kind
		}
		want, code := resultTold(kind, x)
		resultJsonIs(t, "a transaction's", kind, x, want, code)
	}
}

// resultTold is what the chapter says of a right result of a right kind, with no more than MaxColumns columns.
func resultTold(kind int, x impl.Result) (string, int) {
	switch {
	case x.Code != impl.OK:
		return `{"error":"` + impl.CodeWord(x.Code) + `"}`, impl.OK
	case kind == impl.OpInsert:
		return fmt.Sprintf(`{"uuid":["uuid",%d]}`, x.Id), impl.OK
	case kind == impl.OpSelect:
		told := rowsTold(x.Columns, x.Rows)
		if _, code := impl.ParseJson(told); code != impl.OK {
			return "", impl.ErrMany
		}
		return told, impl.OK
	case kind >= impl.OpUpdate && kind <= impl.OpDelete:
		return fmt.Sprintf(`{"count":%d}`, x.Count), impl.OK
	}
	return "{}", impl.OK
}

func TestPromise14Results(t *testing.T) {
	r := rand.New(rand.NewSource(146))
	codes := map[int]int{}
	for range 4000 {
		kind, x := 1+r.Intn(10), coded(r.Intn(20))
		if r.Intn(3) > 0 {
			x = impl.Result{Count: r.Intn(1001), Id: 1 + r.Intn(1000000), Columns: columnsOf("a", "b", "c", "a", "_uuid", "D")[:6-r.Intn(3)*r.Intn(4)]}
			for range 12 - r.Intn(5)*r.Intn(4) {
				one := row(r.Intn(20))
				for range x.Columns {
					one.Cells = append(one.Cells, someWideSet(r))
				}
				x.Rows = append(x.Rows, one)
			}
		}
		if r.Intn(2) == 0 {
			kind = impl.OpSelect
		}
		want, code := resultTold(kind, x)
		resultJsonIs(t, "some result", kind, x, want, code)
		codes[code]++
	}
	if codes[impl.OK] < 2000 || codes[impl.ErrMany] < 200 {
		t.Errorf("codes %v", codes)
	}
}

// What a monitor is told of changes is told by its columns, each row or null.
func TestPromise14Updates(t *testing.T) {
	r := rand.New(rand.NewSource(147))
	kinds := map[int]int{}
	for range 500 {
		s := schema(someAskedTable(r, "a"), someAskedTable(r, "b"))
		m := someMonitor(r, s)
		changed, _ := impl.DiffStores(someAskedStore(r, s), someAskedStore(r, s))
		ups, _ := impl.MonitorUpdates(s, m, changed)
		for _, u := range ups {
			old, new := "null", "null"
			if u.Old.Id != 0 {
				old = rowTold(m.Columns, u.Old)
			}
			if u.New.Id != 0 {
				new = rowTold(m.Columns, u.New)
			}
			updateJsonIs(t, "some update", m.Columns, u, fmt.Sprintf(`{"new":%s,"old":%s,"uuid":%d}`, new, old, u.Id), impl.OK)
			kind, _ := impl.ChangeKind(impl.Change{Id: u.Id, Old: u.Old, New: u.New})
			kinds[kind]++
		}
	}
	if kinds[1] < 200 || kinds[2] < 200 || kinds[3] < 200 {
		t.Errorf("kinds %v", kinds)
	}
}

// Replies are told so that what came of a request is their field: of any right value that leaves room for three others.
func TestPromise14Replies(t *testing.T) {
	r := rand.New(rand.NewSource(148))
	codes := map[int]int{}
	for range 4000 {
		result, id, code := someValue(r, 4), r.Intn(2000)-1000, max(0, r.Intn(40)-20)
		switch r.Intn(3) {
		case 0:
			result = nested(result, 7+r.Intn(5), r.Intn(2) == 0)
		case 1:
			result = list(numbers(380+r.Intn(18)), result)
		}
		if !impl.JsonOK(result) {
			replyJsonIs(t, "a wrong result", id, code, result, "", impl.ErrBad)
			codes[impl.ErrBad]++
			continue
		}
		word, told, want := "null", "null", impl.OK
		if code == impl.OK {
			told, _ = impl.PrintJson(result)
			deep, _ := impl.JsonDepth(result)
			if count, _ := impl.JsonNodes(result); count > 397 || deep == 12 || deep == 11 && !emptyAtTheEnd(result, 11) {
				want = impl.ErrDeep
			}
		} else {
			word = `"` + impl.CodeWord(code) + `"`
		}
		whole := fmt.Sprintf(`{"error":%s,"id":%d,"result":%s}`, word, id, told)
		if want != impl.OK {
			whole = ""
		}
		replyJsonIs(t, "some result", id, code, result, whole, want)
		codes[want]++
	}
	if codes[impl.OK] < 1000 || codes[impl.ErrBad] < 100 || codes[impl.ErrDeep] < 100 {
		t.Errorf("codes %v", codes)
	}
}

// emptyAtTheEnd tells whether all lists and objects that are so deep in a value are empty.
func emptyAtTheEnd(j impl.Json, deep int) bool {
	if deep == 1 {
		return len(j.Items) == 0
	}
	for _, item := range j.Items {
		if item.Kind >= impl.JsList && !emptyAtTheEnd(item, deep-1) {
			return false
		}
	}
	return true
}

// handedWire is what the calls of this chapter are given.
type handedWire struct {
	Value   impl.Json
	Atom    impl.Atom
	Set     []impl.Atom
	Columns []string
	Row     impl.Row
	Kind    int
	Result  impl.Result
	Update  impl.Update
	Name    string
	Id      int
	Code    int
}

// wireOut is what they answer.
type wireOut struct {
	Atom    impl.Atom
	Set     []impl.Atom
	Op      impl.Op
	Request impl.Request
	Monitor impl.Monitor
	Told    [6]impl.Json
	Codes   [11]int
}

func wiredOut(h handedWire) wireOut {
	var out wireOut
	out.Atom, out.Codes[0] = impl.JsonAtom(h.Value)
	out.Set, out.Codes[1] = impl.JsonDatum(h.Value)
	out.Op, out.Codes[2] = impl.JsonOp(h.Value)
	out.Request, out.Codes[3] = impl.JsonRequest(h.Value)
	out.Monitor, out.Codes[4] = impl.JsonMonitor(h.Name, h.Value)
	out.Told[0], out.Codes[5] = impl.AtomJson(h.Atom)
	out.Told[1], out.Codes[6] = impl.DatumJson(h.Set)
	out.Told[2], out.Codes[7] = impl.RowJson(h.Columns, h.Row)
	out.Told[3], out.Codes[8] = impl.ResultJson(h.Kind, h.Result)
	out.Told[4], out.Codes[9] = impl.UpdateJson(h.Columns, h.Update)
	out.Told[5], out.Codes[10] = impl.ReplyJson(h.Id, h.Code, h.Value)
	return out
}

// parts answers the parts of an answer one by one, since what is looked at must have no arrays.
func (out wireOut) parts() []any {
	all := []any{out.Atom, out.Set, out.Op, out.Request, out.Monitor, out.Codes[:]}
	for _, j := range out.Told {
		all = append(all, j)
	}
	return all
}

// wireAnswers are those of all calls; empty lists and nil are told alike.
func wireAnswers(h handedWire) []any {
	var all []any
	for _, part := range wiredOut(h).parts() {
		all = append(all, again(reflect.ValueOf(part), true, 0).Interface())
	}
	return all
}

func handedWireAgain(h handedWire, bare bool, room int) handedWire {
	return again(reflect.ValueOf(h), bare, room).Interface().(handedWire)
}

// handedValues are values that tell something, nothing, and that are not right.
func handedValues() []impl.Json {
	all := append(otherValues(), nested(number(1), 10, false), nested(number(1), 11, true), numbers(397), numbers(398), numbers(400), impl.Json{Kind: 9}, list(text("set"), list(number(1), impl.Json{Kind: 1, N: 2})))
	for _, o := range fullOps() {
		all = append(all, opFields(o).whole())
	}
	for _, told := range []string{`{"id":7,"method":"a","params":[[1,[2]],{"a":[3],"b":[]},"x"]}`, `{"id":7,"method":"a","params":[]}`, `{"columns":["a","b"],"insert":false,"table":"t","where":[["a","==",1],["b","includes",["set",[2,1]]]]}`, `{"columns":[],"table":"t","where":[]}`, `{"op":"wait","row":{},"table":"t","where":[]}`, `{"op":"insert","row":{"a":["set",[3,2,1]],"b":["set",[["named-uuid","p"],["named-uuid","q"]]]},"table":"t"}`} {
		all = append(all, said(told))
	}
	return all
}

// allHandedWires are arguments of all kinds: with codes and without, right and wrong, none and too many.
func allHandedWires() []handedWire {
	some := columnsOf("b", "a", "b")
	full := row(3, ints(0, 8), ids(1, 2), word("x"))
	seen := impl.Result{Columns: some, Rows: rows(full, row(4, nil, nil, nil), full)}
	rest := []handedWire{
		{},
		{Atom: intAtom(7), Set: ints(0, 8), Columns: some, Row: full, Kind: impl.OpSelect, Result: seen, Update: modify(full, row(3, nil, nil, ids(9))), Name: "m", Id: 7},
		{Atom: textAtom("a"), Set: []impl.Atom{}, Columns: columnsOf(), Row: row(1), Kind: impl.OpInsert, Result: numberOf(4), Update: insert(row(3)), Name: "_", Id: -7, Code: impl.ErrMany},
		{Atom: boolAtom(1), Set: word("a"), Columns: columnsOf("a"), Row: row(1, nil), Kind: impl.OpDelete, Result: counted(4), Update: remove(one(3, 1)), Name: "9", Id: 1000000001},
		{Atom: idAtom(3), Set: ids(1, 2, 3), Columns: some, Row: full, Kind: impl.OpSelect, Result: impl.Result{Columns: some, Rows: slices.Repeat(rows(full), 12)}, Update: insert(full), Name: strings.Repeat("m", 41), Id: 7, Code: 20},
		{Atom: idAtom(0), Set: numbersOf(2, 1), Columns: columnsOf("9"), Row: one(1, 1), Kind: 11, Result: coded(3), Update: modify(one(3, 1), one(4, 1)), Name: "m"},
		{Atom: impl.Atom{Kind: 9}, Set: ints(0, 9), Columns: slices.Repeat(some, 3), Row: row(1, make([][]impl.Atom, 9)...), Kind: impl.OpSelect, Result: coded(impl.ErrRef), Update: insert(row(3, numbersOf(1, 1))), Name: "m", Code: -1},
		{Set: ints(0, impl.MaxList+1), Columns: slices.Repeat(columnsOf("a"), impl.MaxList+1), Row: full, Kind: impl.OpSelect, Result: impl.Result{Columns: slices.Repeat(some, 4)}, Update: impl.Update{Id: 3}, Name: strings.Repeat("m", impl.MaxText+1)},
	}
	var all []handedWire
	for _, j := range handedValues() {
		for _, h := range rest {
			h.Value = j
			all = append(all, h)
		}
	}
	return all
}

func TestPromise1WireAlikeAnswers(t *testing.T) {
	given := allHandedWires()
	other := given[len(given)/2]
	for _, h := range given {
		first := wireAnswers(h)
		wiredOut(other)
		if second := wireAnswers(handedWireAgain(h, false, 0)); !reflect.DeepEqual(first, second) {
			t.Errorf("%s: %s, then %s", brief(h), brief(first), brief(second))
		}
		if bare := wireAnswers(handedWireAgain(h, true, 0)); !reflect.DeepEqual(first, bare) {
			t.Errorf("%s: %s, with nil for empty lists %s", brief(h), brief(first), brief(bare))
		}
	}
}

func TestPromise1WireStays(t *testing.T) {
	for _, h := range allHandedWires() {
		roomy := handedWireAgain(h, false, 3)
		before := wholeOf(reflect.ValueOf(roomy))
		answers := wireAnswers(roomy)
		if after := wholeOf(reflect.ValueOf(roomy)); after != before {
			t.Fatalf("%.500s was changed: %.500s", before, after)
		}
		if tight := wireAnswers(h); !reflect.DeepEqual(answers, tight) {
			t.Errorf("%s: room changes an answer", brief(h))
		}
	}
}

// wireIsNew tells that no answer shares memory with what was given, nor two lists of one, nor two answers.
func wireIsNew(t *testing.T, h handedWire) {
	t.Helper()
	out, more := wiredOut(h), wiredOut(h)
	given := []any{h}
	for _, part := range append(out.parts(), more.parts()...) {
		isNew(t, "what is said of "+brief(h), part, given...)
		given = append(given, part)
	}
}

func TestPromise1WireIsNew(t *testing.T) {
	for _, h := range allHandedWires() {
		if len(h.Set) <= impl.MaxList {
			wireIsNew(t, h)
			wireIsNew(t, handedWireAgain(h, false, 3))
		}
	}
}

// Lists of a value, a row or a result may be one list, or begin where another one does.
func TestPromise1WireThatSharesMemory(t *testing.T) {
	one := []impl.Json{number(2), number(1), number(3)}
	tagged := []impl.Json{text("set"), list(one...)}
	phrase := []impl.Json{text("a"), text("=="), list(tagged...)}
	change := []impl.Json{text("a"), text("+="), list(tagged...)}
	both := columnsOf("a", "b", "c")
	some := ints(0, 8)
	cells := [][]impl.Atom{some, some[:3], some[3:]}
	r := impl.Row{Id: 3, Cells: cells}
	for _, j := range []impl.Json{
		list(tagged...), list(list(one...), list(one...), list(one[:1]...)),
		object(keys("op", "where"), text("select"), list(list(phrase...), list(phrase...))), object(keys("mutations", "op"), list(list(change...), list(change...)), text("mutate")),
		object(keys("op", "row"), text("insert"), object(both, list(tagged...), list(tagged...), number(1))), object(keys("id", "method", "params"), number(1), text("a"), list(list(one...), list(one[:2]...), object(both, one...), object(both, one...))),
		object(keys("columns", "table", "where"), list(phrase[:2]...), text("t"), list(list(phrase...), list(phrase...))),
	} {
		h := handedWire{Value: j, Set: some, Columns: both, Row: r, Kind: impl.OpSelect, Result: impl.Result{Columns: both, Rows: rows(r, r)}, Update: modify(r, r), Name: "m", Id: 1}
		before := wholeOf(reflect.ValueOf(h))
		apart := wireAnswers(handedWireAgain(h, false, 0))
		if shared := wireAnswers(h); !reflect.DeepEqual(shared, apart) {
			t.Errorf("%s: shared memory changes an answer: %s, not %s", brief(h), brief(shared), brief(apart))
		}
		wireIsNew(t, h)
		if after := wholeOf(reflect.ValueOf(h)); after != before {
			t.Fatalf("%s was changed: %s", before, after)
		}
		readsAsMeant(t, "shared memory", j)
	}
}

// wiped writes into all lists of a value, behind their end too.
func wiped(v reflect.Value) {
	switch v.Kind() {
	case reflect.Struct:
		for i := range v.NumField() {
			wiped(v.Field(i))
		}
	case reflect.Slice:
		for i := range v.Len() {
			wiped(v.Index(i))
		}
		for i := range v.Cap() {
			v.Slice(0, v.Cap()).Index(i).SetZero()
		}
	}
}

// What is written into an answer changes neither what was given nor the next answer.
func TestPromise1WhoWritesIntoWire(t *testing.T) {
	for _, h := range allHandedWires() {
		want := wireAnswers(handedWireAgain(h, false, 0))
		before := wholeOf(reflect.ValueOf(h))
		for _, part := range wiredOut(h).parts() {
			wiped(reflect.ValueOf(part))
		}
		if second := wireAnswers(h); !reflect.DeepEqual(second, want) || wholeOf(reflect.ValueOf(h)) != before {
			t.Errorf("%s: a spoilt answer changes the next one: %s, not %s", brief(h), brief(second), brief(want))
		}
	}
}

func TestPromise1WireAtTheSameTime(t *testing.T) {
	given := allHandedWires()
	var all sync.WaitGroup
	for range 8 {
		all.Go(func() {
			for _, h := range given {
				first := wireAnswers(h)
				if second := wireAnswers(h); !reflect.DeepEqual(first, second) {
					t.Errorf("%s: %s, then %s", brief(h), brief(first), brief(second))
				}
			}
		})
	}
	all.Wait()
}

// A value whose lists hold themselves is not right, and no call goes round in it.
func TestPromise1WireEndsOnValuesThatHoldThemselves(t *testing.T) {
	ring := make([]impl.Json, 2)
	ring[0], ring[1] = text("set"), list(ring...)
	ring[1].Items = ring
	looped := make([]impl.Json, 2)
	looped[0], looped[1] = text("insert"), object(keys("a", "b"), looped...)
	looped[1].Items = looped
	for i, j := range []impl.Json{list(ring...), list(text("uuid"), ring[1]), object(keys("op", "row"), looped...), object(keys("id", "method", "params"), number(1), text("a"), ring[1]), object(keys("table", "where"), text("t"), ring[1])} {
		a, atomCode := impl.JsonAtom(j)
		d, datumCode := impl.JsonDatum(j)
		o, opCode := impl.JsonOp(j)
		q, requestCode := impl.JsonRequest(j)
		m, monitorCode := impl.JsonMonitor("m", j)
		reply, replyCode := impl.ReplyJson(1, impl.OK, j)
		if codes := []int{atomCode, datumCode, opCode, requestCode, monitorCode, replyCode}; !slices.Equal(codes, []int{1, 1, 1, 1, 1, 1}) {
			t.Errorf("%d: codes %v", i, codes)
		}
		if a != (impl.Atom{}) || len(d) > 0 || !alike(o, impl.Op{}) || !alike(q, impl.Request{}) || !alike(m, impl.Monitor{}) || !zero(reply) {
			t.Errorf("%d: something is answered beside a code", i)
		}
	}
}
