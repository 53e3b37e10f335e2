package tests

import (
	"fmt"
	"math"
	"slices"
	"strconv"
	"strings"
	"testing"

	"loop.example/g00524/impl"
)

// said answers the value of a text.
func said(s string) impl.Json {
	j, code := impl.ParseJson(s)
	if code != impl.OK {
		panic("no text of a value: " + s)
	}
	return j
}

// toldIs tells what was answered by a call that tells something: a value of that text, or nothing beside a code.
func toldIs(t *testing.T, what, call string, given any, j impl.Json, code int, want string, wantCode int) {
	t.Helper()
	if code != wantCode || code != impl.OK && !zero(j) {
		t.Errorf("%s: %s of %s is %s, %d, not %s, %d", what, call, brief(given), brief(j), code, brief(want), wantCode)
		return
	}
	if printed, printCode := impl.PrintJson(j); code == impl.OK && (printed != want || printCode != impl.OK) {
		t.Errorf("%s: %s of %s is %s, %d, not %s", what, call, brief(given), brief(printed), printCode, brief(want))
	}
}

func atomJsonIs(t *testing.T, what string, a impl.Atom, want string, wantCode int) {
	t.Helper()
	j, code := impl.AtomJson(a)
	toldIs(t, what, "AtomJson", a, j, code, want, wantCode)
}

func jsonAtomIs(t *testing.T, what string, j impl.Json, want impl.Atom, wantCode int) {
	t.Helper()
	if a, code := impl.JsonAtom(j); a != want || code != wantCode {
		t.Errorf("%s: JsonAtom(%s) is %v, %d, not %v, %d", what, brief(j), a, code, want, wantCode)
	}
}

func datumJsonIs(t *testing.T, what string, d []impl.Atom, want string, wantCode int) {
	t.Helper()
	j, code := impl.DatumJson(d)
	toldIs(t, what, "DatumJson", d, j, code, want, wantCode)
}

func jsonDatumIs(t *testing.T, what string, j impl.Json, want []impl.Atom, wantCode int) {
	t.Helper()
	if d, code := impl.JsonDatum(j); !slices.Equal(d, want) || code != wantCode {
		t.Errorf("%s: JsonDatum(%s) is %s, %d, not %s, %d", what, brief(j), brief(d), code, brief(want), wantCode)
	}
}

func rowJsonIs(t *testing.T, what string, columns []string, r impl.Row, want string, wantCode int) {
	t.Helper()
	j, code := impl.RowJson(columns, r)
	toldIs(t, what, "RowJson", []any{columns, r}, j, code, want, wantCode)
}

func resultJsonIs(t *testing.T, what string, kind int, r impl.Result, want string, wantCode int) {
	t.Helper()
	j, code := impl.ResultJson(kind, r)
	toldIs(t, what, "ResultJson", []any{kind, r}, j, code, want, wantCode)
}

func updateJsonIs(t *testing.T, what string, columns []string, u impl.Update, want string, wantCode int) {
	t.Helper()
	j, code := impl.UpdateJson(columns, u)
	toldIs(t, what, "UpdateJson", []any{columns, u}, j, code, want, wantCode)
}

func replyJsonIs(t *testing.T, what string, id, code int, result impl.Json, want string, wantCode int) {
	t.Helper()
	j, got := impl.ReplyJson(id, code, result)
	toldIs(t, what, "ReplyJson", []any{id, code, result}, j, got, want, wantCode)
}

func requestIs(t *testing.T, what string, j impl.Json, want impl.Request, wantCode int) {
	t.Helper()
	if q, code := impl.JsonRequest(j); !alike(q, want) || code != wantCode {
		t.Errorf("%s: JsonRequest(%s) is %s, %d, not %s, %d", what, brief(j), brief(q), code, brief(want), wantCode)
	}
}

// The texts of values as the chapter writes them, told once more.
func quoteTold(s string) string {
	return `"` + strings.NewReplacer(`\`, `\\`, `"`, `\"`).Replace(s) + `"`
}

func atomTold(a impl.Atom) string {
	switch a.Kind {
	case impl.AtInt:
		return strconv.Itoa(a.N)
	case impl.AtText:
		return quoteTold(a.T)
	case impl.AtBool:
		return strconv.FormatBool(a.N == 1)
	}
	return fmt.Sprintf(`["uuid",%d]`, a.N)
}

func datumTold(d []impl.Atom) string {
	var list []string
	for _, a := range d {
		list = append(list, atomTold(a))
	}
	if len(list) == 1 {
		return list[0]
	}
	return `["set",[` + strings.Join(list, ",") + `]]`
}

func rowTold(columns []string, r impl.Row) string {
	last := map[string]string{}
	for i, name := range columns {
		last[name] = datumTold(r.Cells[i])
	}
	names := slices.Compact(slices.Sorted(slices.Values(columns)))
	for i, name := range names {
		names[i] = quoteTold(name) + ":" + last[name]
	}
	return "{" + strings.Join(names, ",") + "}"
}

func rowsTold(columns []string, list []impl.Row) string {
	var all []string
	for _, r := range list {
		all = append(all, rowTold(columns, r))
	}
	return `{"rows":[` + strings.Join(all, ",") + `]}`
}

func TestAtomsThatAreTold(t *testing.T) {
	for told, a := range map[string]impl.Atom{
		"0": intAtom(0), "7": intAtom(7), "-7": intAtom(-7), "1000000000": intAtom(1000000000), "-1000000000": intAtom(-1000000000), "1000001": intAtom(1000001),
		`""`: textAtom(""), `"a"`: textAtom("a"), `"7"`: textAtom("7"), `"true"`: textAtom("true"), `"uuid"`: textAtom("uuid"), `"set"`: textAtom("set"), `"[\"uuid\",7]"`: textAtom(`["uuid",7]`), `"\\"`: textAtom(`\`),
		"true": boolAtom(1), "false": boolAtom(0), `["uuid",1]`: idAtom(1), `["uuid",1000000]`: idAtom(1000000),
	} {
		atomJsonIs(t, "an atom", a, told, impl.OK)
		jsonAtomIs(t, "an atom", said(told), a, impl.OK)
		datumJsonIs(t, "a set of one", atoms(a), told, impl.OK)
		jsonDatumIs(t, "a set of one", said(told), atoms(a), impl.OK)
		jsonDatumIs(t, "a set of one, as a set", said(`["set",[`+told+`]]`), atoms(a), impl.OK)
		jsonDatumIs(t, "a set of one twice", said(`["set",[`+told+","+told+`]]`), atoms(a), impl.OK)
	}
	for _, a := range risingAtoms() {
		atomJsonIs(t, "an atom", a, atomTold(a), impl.OK)
		jsonAtomIs(t, "an atom", said(atomTold(a)), a, impl.OK)
	}
}

func TestWrongAtomsAreNotTold(t *testing.T) {
	for what, a := range wrongAtoms() {
		atomJsonIs(t, what, a, "", impl.ErrBad)
		datumJsonIs(t, what, atoms(a), "", impl.ErrBad)
	}
}

// noAtoms are right values that tell no atom.
func noAtoms() []string {
	return []string{
		"null", "{}", "[]", `["uuid"]`, `["uuid",0]`, `["uuid",-1]`, `["uuid",1000001]`, `["uuid",1000000000]`, `["uuid",-1000000000]`, `["uuid","a"]`, `["uuid","1"]`, `["uuid",""]`, `["uuid",true]`, `["uuid",false]`, `["uuid",null]`, `["uuid",[]]`, `["uuid",[1]]`, `["uuid",{}]`,
		`["uuid",1,2]`, `["uuid",1,1]`, `["uuid",["uuid",1]]`, `[1,"uuid"]`, `[1]`, `[1,1]`, `[[1]]`, `["a"]`, `["a",1]`, `["",1]`, `["Uuid",1]`, `["uuid ",1]`, `["uui",1]`, `["uuidd",1]`, `[["uuid"],1]`, `[["uuid",1]]`, `[null,1]`, `[true,1]`, `["named-uuid","p"]`, `["named-uuid",1]`,
		`{"uuid":1}`, `{"uuid":["uuid",1]}`, `{"":1}`, `["set",1]`, `["set","a"]`, `["set",true]`, `["set",null]`, `["set",{}]`, `["set",{"a":1}]`, `["set"]`, `["set",[],[]]`, `["set",[1],[1]]`, `["set",1,1]`, `[[1],"set"]`, `["Set",[1]]`, `["",[1]]`, `["uuid",[1]]`, `["sets",[1]]`,
	}
}

func TestValuesThatAreNoAtoms(t *testing.T) {
	for _, told := range noAtoms() {
		jsonAtomIs(t, "no atom", said(told), impl.Atom{}, impl.ErrForm)
		jsonDatumIs(t, "no atom", said(told), nil, impl.ErrForm)
		jsonDatumIs(t, "a set of no atom", said(`["set",[`+told+`]]`), nil, impl.ErrForm)
		jsonDatumIs(t, "a set of an atom and none", said(`["set",[1,`+told+`]]`), nil, impl.ErrForm)
		jsonDatumIs(t, "a set of none and an atom", said(`["set",[`+told+`,1]]`), nil, impl.ErrForm)
	}
	for _, told := range []string{`["set",[]]`, `["set",[1]]`, `["set",[1,2]]`, `["set",["a"]]`, `["set",[["uuid",1]]]`} {
		jsonAtomIs(t, "a set", said(told), impl.Atom{}, impl.ErrForm)
	}
}

// notRight tells a value to all calls that read one: what is not right has the code ErrBad.
func notRight(t *testing.T, what string, j impl.Json) {
	t.Helper()
	jsonAtomIs(t, what, j, impl.Atom{}, impl.ErrBad)
	jsonDatumIs(t, what, j, nil, impl.ErrBad)
	jsonOpIs(t, what, j, impl.Op{}, impl.ErrBad)
	requestIs(t, what, j, impl.Request{}, impl.ErrBad)
	for _, name := range []string{"", "m", "9", strings.Repeat("m", impl.MaxName+1), strings.Repeat("m", impl.MaxText)} {
		jsonMonitorIs(t, what, name, j, impl.Monitor{}, impl.ErrBad)
	}
	jsonMonitorIs(t, what, strings.Repeat("m", impl.MaxText+1), j, impl.Monitor{}, impl.ErrLong)
	for _, code := range []int{impl.OK, impl.ErrBad, impl.ErrMethod, -1, 20} {
		replyJsonIs(t, what, 7, code, j, "", impl.ErrBad)
	}
}

func TestValuesThatAreNotRight(t *testing.T) {
	for what, j := range wrongValues() {
		notRight(t, what, j)
		notRight(t, what+" in a list", list(j))
		notRight(t, what+" as an Id", list(text("uuid"), j))
		notRight(t, what+" behind an Id", list(text("uuid"), number(1), j))
		notRight(t, what+" in a set", list(text("set"), list(number(1), j)))
		notRight(t, what+" as a set", list(text("set"), j))
		notRight(t, what+" in an operation", object(keys("op", "table"), text("insert"), j))
		notRight(t, what+" beside an operation", object(keys("op", "x"), text("commit"), j))
		notRight(t, what+" in a row", object(keys("op", "row"), text("insert"), object(keys("a"), j)))
		notRight(t, what+" in a request", object(keys("id", "method", "params"), number(1), text("echo"), list(j)))
		notRight(t, what+" in a monitor", object(keys("initial", "table"), j, text("t")))
	}
	notRight(t, "a field twice", object(keys("op", "op"), text("commit"), text("commit")))
	notRight(t, "a table twice", object(keys("op", "table", "table"), text("insert"), text("t"), text("t")))
	notRight(t, "fields that fall", object(keys("table", "op"), text("t"), text("insert")))
	notRight(t, "fields of a request that fall", object(keys("method", "id", "params"), text("echo"), number(1), list()))
	notRight(t, "a column twice", object(keys("op", "row"), text("insert"), object(keys("a", "a"), number(1), number(1))))
	notRight(t, "a text of MaxText bytes", text(strings.Repeat("a", impl.MaxText)))
	notRight(t, "a text of one more", text(strings.Repeat("a", impl.MaxText+1)))
	notRight(t, "a list of MaxList", numbers(impl.MaxList))
	notRight(t, "a list of one more", numbers(impl.MaxList+1))
	notRight(t, "too deep", nested(number(1), 12, false))
	notRight(t, "too many", numbers(400))
}

func TestNumbersAndTextsAtTheirBounds(t *testing.T) {
	for _, n := range edgeNumbers() {
		want, code, idCode := intAtom(n), impl.OK, impl.ErrForm
		if n < -1000000000 || n > 1000000000 {
			want, code, idCode = impl.Atom{}, impl.ErrBad, impl.ErrBad
		}
		jsonAtomIs(t, "a number", number(n), want, code)
		if n < 1 || n > 1000000 {
			jsonAtomIs(t, "an Id", list(text("uuid"), number(n)), impl.Atom{}, idCode)
			jsonDatumIs(t, "an Id in a set", list(text("set"), list(list(text("uuid"), number(n)))), nil, idCode)
		}
	}
	for n, want := range map[int]impl.Atom{0: {}, 1: idAtom(1), 2: idAtom(2), 999999: idAtom(999999), 1000000: idAtom(1000000), 1000001: {}} {
		code := impl.OK
		if want.Kind == 0 {
			code = impl.ErrForm
		}
		jsonAtomIs(t, "an Id", list(text("uuid"), number(n)), want, code)
	}
	for size := 198; size <= 202; size++ {
		long := strings.Repeat("a", size)
		if size > 200 {
			atomJsonIs(t, "a long text", textAtom(long), "", impl.ErrBad)
			jsonAtomIs(t, "a long text", text(long), impl.Atom{}, impl.ErrBad)
			continue
		}
		atomJsonIs(t, "a text", textAtom(long), `"`+long+`"`, impl.OK)
		jsonAtomIs(t, "a text", text(long), textAtom(long), impl.OK)
	}
	all := printable()
	atomJsonIs(t, "all bytes", textAtom(all), quoteTold(all), impl.OK)
	jsonAtomIs(t, "all bytes", text(all), textAtom(all), impl.OK)
}

func TestSetsThatAreTold(t *testing.T) {
	for told, d := range map[string][]impl.Atom{
		`["set",[]]`: nil, "5": ints(5, 6), `["set",[5,6]]`: ints(5, 7), `["set",[-1,0,1,2,3,4,5,6]]`: ints(-1, 7), `["set",["","a"]]`: atoms(textAtom(""), textAtom("a")), `["set",[false,true]]`: atoms(boolAtom(0), boolAtom(1)),
		`["set",[["uuid",3],["uuid",4]]]`: ids(3, 4), `["uuid",3]`: ids(3), `["set",["set","uuid"]]`: atoms(textAtom("set"), textAtom("uuid")), `["set",["named-uuid","p"]]`: atoms(textAtom("named-uuid"), textAtom("p")),
	} {
		datumJsonIs(t, "a set", d, told, impl.OK)
		jsonDatumIs(t, "a set", said(told), d, impl.OK)
	}
	for _, d := range rightSets() {
		datumJsonIs(t, "a right set", d, datumTold(d), impl.OK)
		jsonDatumIs(t, "a right set", said(datumTold(d)), d, impl.OK)
	}
	for what, d := range wrongSets() {
		datumJsonIs(t, what, d, "", impl.ErrBad)
	}
	for _, size := range []int{impl.MaxList, impl.MaxList + 1, 2 * impl.MaxList} {
		code := impl.ErrBad
		if size > impl.MaxList {
			code = impl.ErrLong
		}
		datumJsonIs(t, "a long list", ints(0, size), "", code)
		datumJsonIs(t, "a long list of nothing", make([]impl.Atom, size), "", code)
		datumJsonIs(t, "a long list of one", slices.Repeat(ints(1, 2), size), "", code)
	}
}

func TestSetsThatAreRead(t *testing.T) {
	for told, d := range map[string][]impl.Atom{
		`["set",[3,1,3]]`: numbersOf(1, 3), `["set",[2,1]]`: numbersOf(1, 2), `["set",[1,1,1,1,1,1,1,1,1,1,1,1]]`: numbersOf(1), `["set",[8,7,6,5,4,3,2,1]]`: ints(1, 9), `["set",[8,7,6,5,4,3,2,1,8,7,6,5]]`: ints(1, 9),
		`["set",["b","a","b",""]]`: atoms(textAtom(""), textAtom("a"), textAtom("b")), `["set",[true,false,true]]`: atoms(boolAtom(0), boolAtom(1)), `["set",[true]]`: atoms(boolAtom(1)), `["set",[["uuid",9],["uuid",2],["uuid",9]]]`: ids(2, 9), `["set",["10","9"]]`: atoms(textAtom("10"), textAtom("9")),
	} {
		jsonDatumIs(t, "a set in another order", said(told), d, impl.OK)
	}
	for _, told := range []string{
		`["set",[1,2,3,4,5,6,7,8,9]]`, `["set",[9,8,7,6,5,4,3,2,1]]`, `["set",[1,2,3,4,5,6,7,8,1,2,3,4,5,6,7,8,9]]`, `["set",[1,"a"]]`, `["set",["a",1]]`, `["set",[1,true]]`, `["set",[0,false]]`, `["set",[1,["uuid",1]]]`, `["set",["1",1]]`, `["set",[1,2,3,4,5,6,7,"8"]]`,
		`["set",[["set",[]]]]`, `["set",[["set",[1]]]]`, `["set",[["set",[1,2]]]]`, `["set",["set",[]]]`, `["set",[1,["set",[2]]]]`, `["set",[["set",[2]],1]]`, `["set",["uuid",5]]`, `["set",["set",[1]]]`, `["set",[["named-uuid","p"]]]`, `["set",[1,["named-uuid","p"]]]`, `["set",[["named-uuid","p"],["uuid",1]]]`,
	} {
		jsonDatumIs(t, "no set", said(told), nil, impl.ErrForm)
	}
	most := numbers(400 - 3)
	for i := range most.Items {
		most.Items[i].N %= 8
	}
	jsonDatumIs(t, "as many parts as there may be", list(text("set"), most), ints(0, 8), impl.OK)
	most.Items[200].N = 8
	jsonDatumIs(t, "one of them is one more", list(text("set"), most), nil, impl.ErrForm)
}

func TestRowsThatAreTold(t *testing.T) {
	long := strings.Repeat("a", impl.MaxName)
	for _, c := range []struct {
		columns []string
		cells   [][]impl.Atom
		want    string
	}{
		{nil, nil, "{}"},
		{columnsOf(), [][]impl.Atom{}, "{}"},
		{columnsOf("a"), [][]impl.Atom{nil}, `{"a":["set",[]]}`},
		{columnsOf("a"), [][]impl.Atom{ids(7)}, `{"a":["uuid",7]}`},
		{columnsOf("_uuid"), [][]impl.Atom{ids(7)}, `{"_uuid":["uuid",7]}`},
		{columnsOf("b", "a"), [][]impl.Atom{word("x"), ints(1, 3)}, `{"a":["set",[1,2]],"b":"x"}`},
		{columnsOf("b", "a", "b"), [][]impl.Atom{word("x"), ints(1, 3), word("y")}, `{"a":["set",[1,2]],"b":"y"}`},
		{columnsOf("b", "b", "b"), [][]impl.Atom{word("x"), ints(1, 3), nil}, `{"b":["set",[]]}`},
		{columnsOf("a", "B", "_", "a0", long), [][]impl.Atom{numbersOf(1), numbersOf(2), numbersOf(3), numbersOf(4), numbersOf(5)}, `{"B":2,"_":3,"a":1,"a0":4,"` + long + `":5}`},
		{columnsOf("f", "e", "d", "c", "b", "a"), [][]impl.Atom{numbersOf(6), word("5"), atoms(boolAtom(1)), nil, ids(3, 4), ids(1)}, `{"a":["uuid",1],"b":["set",[["uuid",3],["uuid",4]]],"c":["set",[]],"d":true,"e":"5","f":6}`},
	} {
		for _, id := range []int{math.MinInt, -1, 0, 1, 7, 1000000, 1000001, math.MaxInt} {
			rowJsonIs(t, "a row", c.columns, impl.Row{Id: id, Cells: c.cells}, c.want, impl.OK)
		}
	}
	for _, d := range rightSets() {
		rowJsonIs(t, "a right set", columnsOf("a", "b", "a"), row(1, nil, d, d), `{"a":`+datumTold(d)+`,"b":`+datumTold(d)+"}", impl.OK)
	}
	greatest := make([]impl.Atom, 8)
	for i := range greatest {
		greatest[i] = textAtom(strings.Repeat("\"", 199) + strconv.Itoa(i))
	}
	six := columnsOf("a", "b", "c", "d", "e", "f")
	for _, d := range [][]impl.Atom{greatest, ids(999993, 999994, 999995, 999996, 999997, 999998, 999999, 1000000)} {
		r := row(1, slices.Repeat([][]impl.Atom{d}, 6)...)
		rowJsonIs(t, "the greatest row", six, r, rowTold(six, r), impl.OK)
	}
}

func TestRowsThatAreNotRight(t *testing.T) {
	cell := numbersOf(1)
	for name, right := range edgeNames() {
		for _, columns := range [][]string{{name}, {"a", name}, {name, "b"}, {"a", "b", "c", "d", "e", name}, {"a", "a", "a", "a", "a", name}} {
			r := row(1, slices.Repeat([][]impl.Atom{cell}, len(columns))...)
			if right {
				rowJsonIs(t, "a name", columns, r, rowTold(columns, r), impl.OK)
			} else {
				rowJsonIs(t, "no name", columns, r, "", impl.ErrBad)
			}
		}
	}
	for count := range 10 {
		for _, columns := range [][]string{columnsOf("a", "b", "c", "d", "e", "f", "g", "h", "i")[:count], slices.Repeat(columnsOf("a"), count)} {
			for cells := range 10 {
				r := row(1, slices.Repeat([][]impl.Atom{cell}, cells)...)
				if count == cells && count <= 6 {
					rowJsonIs(t, "names and cells", columns, r, rowTold(columns, r), impl.OK)
				} else {
					rowJsonIs(t, "too many, or another number of cells", columns, r, "", impl.ErrBad)
				}
			}
		}
	}
	for what, d := range wrongSets() {
		rowJsonIs(t, what, columnsOf("a"), row(1, d), "", impl.ErrBad)
		rowJsonIs(t, what+" behind", columnsOf("a", "b"), row(1, cell, d), "", impl.ErrBad)
		rowJsonIs(t, what+" ahead", columnsOf("a", "b"), row(1, d, cell), "", impl.ErrBad)
		rowJsonIs(t, what+", and another one last", columnsOf("a", "a"), row(1, d, cell), "", impl.ErrBad)
	}
	for _, count := range []int{impl.MaxList, impl.MaxList + 1, 2 * impl.MaxList} {
		code := impl.ErrBad
		if count > impl.MaxList {
			code = impl.ErrLong
		}
		for _, name := range []string{"a", "", "9"} {
			columns := slices.Repeat(columnsOf(name), count)
			rowJsonIs(t, "many names", columns, row(1), "", code)
			rowJsonIs(t, "many names and cells", columns, impl.Row{Id: 1, Cells: make([][]impl.Atom, count)}, "", code)
			updateJsonIs(t, "many names", columns, insert(row(1)), "", code)
			updateJsonIs(t, "many names of no update", columns, impl.Update{}, "", code)
		}
		rowJsonIs(t, "many cells", nil, impl.Row{Id: 1, Cells: make([][]impl.Atom, count)}, "", impl.ErrBad)
	}
}

func TestResultsThatAreTold(t *testing.T) {
	for code := 1; code <= 19; code++ {
		for kind := 1; kind <= 10; kind++ {
			resultJsonIs(t, "a code", kind, coded(code), `{"error":"`+impl.CodeWord(code)+`"}`, impl.OK)
		}
	}
	seen := impl.Result{Columns: columnsOf("b", "a"), Rows: rows(row(4, numbersOf(1), nil), row(9, nil, ids(3)))}
	for kind, want := range map[int]string{1: "", 2: `{"rows":[{"a":["set",[]],"b":1},{"a":["uuid",3],"b":["set",[]]}]}`, 3: `{"count":0}`, 4: `{"count":0}`, 5: `{"count":0}`, 6: "{}", 7: "{}", 8: "{}", 9: "{}", 10: "{}"} {
		if kind != impl.OpInsert {
			resultJsonIs(t, "rows", kind, seen, want, impl.OK)
		}
	}
	for _, n := range []int{0, 1, 2, 999, 1000} {
		for kind := 3; kind <= 5; kind++ {
			resultJsonIs(t, "a count", kind, counted(n), fmt.Sprintf(`{"count":%d}`, n), impl.OK)
		}
		for kind := 6; kind <= 10; kind++ {
			resultJsonIs(t, "a count that is not told", kind, counted(n), "{}", impl.OK)
		}
		resultJsonIs(t, "a count of a select", impl.OpSelect, counted(n), `{"rows":[]}`, impl.OK)
	}
	for _, id := range []int{1, 2, 999999, 1000000} {
		resultJsonIs(t, "an insert", impl.OpInsert, numberOf(id), fmt.Sprintf(`{"uuid":["uuid",%d]}`, id), impl.OK)
		resultJsonIs(t, "an insert with more", impl.OpInsert, impl.Result{Id: id, Count: 3, Columns: seen.Columns, Rows: seen.Rows}, fmt.Sprintf(`{"uuid":["uuid",%d]}`, id), impl.OK)
		resultJsonIs(t, "an Id that is not told", impl.OpCommit, numberOf(id), "{}", impl.OK)
	}
	resultJsonIs(t, "an insert without an Id", impl.OpInsert, numberOf(0), `{"uuid":["uuid",0]}`, impl.OK)
	resultJsonIs(t, "columns without rows", impl.OpSelect, impl.Result{Columns: columnsOf("a", "b")}, `{"rows":[]}`, impl.OK)
	resultJsonIs(t, "rows without columns", impl.OpSelect, impl.Result{Rows: rows(row(1), row(2))}, `{"rows":[{},{}]}`, impl.OK)
	resultJsonIs(t, "a column twice", impl.OpSelect, impl.Result{Columns: columnsOf("a", "a"), Rows: rows(row(1, numbersOf(1), numbersOf(2)))}, `{"rows":[{"a":2}]}`, impl.OK)
	resultJsonIs(t, "Ids that fall", impl.OpSelect, impl.Result{Columns: columnsOf("a"), Rows: rows(row(2, numbersOf(1)), row(1, numbersOf(2)), row(0, nil))}, `{"rows":[{"a":1},{"a":2},{"a":["set",[]]}]}`, impl.OK)
}

func TestResultsThatAreNotRight(t *testing.T) {
	for _, kind := range []int{math.MinInt, -10, -1, 0, 11, 12, 1 << 32, 1<<32 + 1, math.MaxInt} {
		for _, r := range results(impl.Result{}, coded(impl.ErrBad), counted(1), numberOf(1), coded(20)) {
			resultJsonIs(t, "no kind", kind, r, "", impl.ErrBad)
		}
	}
	wrong := results(coded(-1), coded(20), coded(math.MinInt), coded(math.MaxInt), counted(-1), counted(1001), counted(math.MinInt), numberOf(-1), numberOf(1000001), numberOf(math.MaxInt),
		impl.Result{Code: 1, Count: 1}, impl.Result{Code: 1, Id: 1}, impl.Result{Code: 1, Columns: columnsOf("a")}, impl.Result{Code: 1, Rows: rows(row(1))}, impl.Result{Columns: columnsOf("")}, impl.Result{Columns: columnsOf("9")},
		impl.Result{Columns: slices.Repeat(columnsOf("a"), 8)}, impl.Result{Rows: make([]impl.Row, 13)}, impl.Result{Columns: columnsOf("a"), Rows: rows(row(1))}, impl.Result{Rows: rows(row(1, nil))}, impl.Result{Columns: columnsOf("a"), Rows: rows(row(1, numbersOf(2, 1)))},
		impl.Result{Columns: slices.Repeat(columnsOf("a"), impl.MaxList+1)}, impl.Result{Rows: make([]impl.Row, impl.MaxList+1)})
	for _, r := range wrong {
		for kind := 0; kind <= 11; kind++ {
			resultJsonIs(t, "a wrong result", kind, r, "", impl.ErrBad)
		}
	}
}

// Rows are told by RowJson, which takes no more than MaxColumns names; without rows nothing is told by them.
func TestResultsOfMoreThanMaxColumns(t *testing.T) {
	for count := range 9 {
		columns := slices.Repeat(columnsOf("a"), count)
		r := impl.Result{Columns: columns, Rows: rows(row(1, make([][]impl.Atom, count)...))}
		want, code, bareCode := rowsTold(columns, r.Rows), impl.OK, impl.OK
		if count > 6 {
			want, code = "", impl.ErrBad
		}
		bare := `{"rows":[]}`
		if count > 7 {
			bare, bareCode = "", impl.ErrBad
		}
		resultJsonIs(t, "some columns", impl.OpSelect, r, want, code)
		resultJsonIs(t, "some columns without rows", impl.OpSelect, impl.Result{Columns: columns}, bare, bareCode)
	}
}

// manyParts answers the result of a select that is told in so many parts, a few hundred of them.
func manyParts(columns []string, parts int) impl.Result {
	left := parts - 2 - 8*(1+len(columns))
	r := impl.Result{Columns: columns}
	for id := range 8 {
		cells := make([][]impl.Atom, len(columns))
		for k := range cells {
			// a set of 2 to 8 numbers is told in 4 to 10 parts more than a number is
			more := min(left, 10)
			if left > 10 && left < 20 {
				more = left / 2
			}
			if cells[k] = numbersOf(7); more > 0 {
				cells[k] = ints(0, more-2)
			}
			left -= more
		}
		r.Rows = append(r.Rows, row(id+1, cells...))
	}
	return r
}

// All numbers of parts about the greatest one: what would be told in more is ErrMany.
func TestResultsOfManyParts(t *testing.T) {
	six := columnsOf("a", "b", "c", "d", "e", "f")
	for parts := 380; parts <= 420; parts++ {
		r := manyParts(six, parts)
		if parts > 400 {
			resultJsonIs(t, fmt.Sprint(parts, " parts"), impl.OpSelect, r, "", impl.ErrMany)
			resultJsonIs(t, fmt.Sprint(parts, " parts, not told"), impl.OpDelete, r, `{"count":0}`, impl.OK)
			continue
		}
		j, _ := impl.ResultJson(impl.OpSelect, r)
		if count, code := impl.JsonNodes(j); count != parts || code != impl.OK {
			t.Errorf("%d parts: there are %d, %d", parts, count, code)
		}
		resultJsonIs(t, fmt.Sprint(parts, " parts"), impl.OpSelect, r, rowsTold(six, r.Rows), impl.OK)
	}
	full := impl.Result{Columns: six, Rows: slices.Repeat(rows(row(1, slices.Repeat([][]impl.Atom{ids(1, 2, 3, 4, 5, 6, 7, 8)}, 6)...)), 12)}
	resultJsonIs(t, "the greatest one", impl.OpSelect, full, "", impl.ErrMany)
	two := impl.Result{Columns: six, Rows: full.Rows[:2]}
	resultJsonIs(t, "two rows of it", impl.OpSelect, two, rowsTold(six, two.Rows), impl.OK)
	twelve := impl.Result{Columns: six, Rows: slices.Repeat(rows(row(1, slices.Repeat([][]impl.Atom{numbersOf(1)}, 6)...)), 12)}
	resultJsonIs(t, "twelve rows of one each", impl.OpSelect, twelve, rowsTold(six, twelve.Rows), impl.OK)
}

func TestUpdatesThatAreTold(t *testing.T) {
	old, new := row(3, numbersOf(1), nil), row(3, numbersOf(1, 2), word("x"))
	columns := columnsOf("b", "a")
	updateJsonIs(t, "it came", columns, insert(new), `{"new":{"a":"x","b":["set",[1,2]]},"old":null,"uuid":3}`, impl.OK)
	updateJsonIs(t, "it went", columns, remove(old), `{"new":null,"old":{"a":["set",[]],"b":1},"uuid":3}`, impl.OK)
	updateJsonIs(t, "it stayed", columns, modify(old, new), `{"new":{"a":"x","b":["set",[1,2]]},"old":{"a":["set",[]],"b":1},"uuid":3}`, impl.OK)
	updateJsonIs(t, "it is the same", columns, modify(old, old), `{"new":{"a":["set",[]],"b":1},"old":{"a":["set",[]],"b":1},"uuid":3}`, impl.OK)
	updateJsonIs(t, "without columns it came", nil, insert(row(3)), `{"new":{},"old":null,"uuid":3}`, impl.OK)
	updateJsonIs(t, "without columns it went", nil, remove(row(3)), `{"new":null,"old":{},"uuid":3}`, impl.OK)
	updateJsonIs(t, "without columns it stayed", columnsOf(), modify(row(3), row(3)), `{"new":{},"old":{},"uuid":3}`, impl.OK)
	updateJsonIs(t, "a column twice", columnsOf("a", "a"), insert(row(3, numbersOf(1), numbersOf(2))), `{"new":{"a":2},"old":null,"uuid":3}`, impl.OK)
	for _, id := range []int{1, 2, 999999, 1000000, 1000001, 999999999, 1000000000} {
		updateJsonIs(t, "an Id", columnsOf("a"), insert(one(id, 5)), fmt.Sprintf(`{"new":{"a":5},"old":null,"uuid":%d}`, id), impl.OK)
	}
	six := columnsOf("a", "b", "c", "d", "e", "f")
	full := row(7, slices.Repeat([][]impl.Atom{ids(1, 2, 3, 4, 5, 6, 7, 8)}, 6)...)
	updateJsonIs(t, "the greatest one", six, modify(full, full), `{"new":`+rowTold(six, full)+`,"old":`+rowTold(six, full)+`,"uuid":7}`, impl.OK)
}

func TestUpdatesThatAreNotRight(t *testing.T) {
	columns, a := columnsOf("a"), one(3, 1)
	for what, u := range map[string]impl.Update{
		"nothing": {}, "an Id alone": {Id: 3}, "Id 0 and a row of it": {New: row(0, numbersOf(1))}, "an Id below 0": insert(one(-1, 1)), "the least Id": insert(one(math.MinInt, 1)), "an Id above MaxNumber": insert(one(1000000001, 1)), "the greatest Id": modify(one(math.MaxInt, 1), one(math.MaxInt, 1)),
		"another Id": {Id: 4, New: a}, "another Id went": {Id: 4, Old: a}, "two Ids": {Id: 3, Old: a, New: one(4, 1)}, "two Ids, the second one": {Id: 4, Old: a, New: one(4, 1)}, "neither of the Ids": {Id: 5, Old: a, New: a},
		"Old without an Id": {Id: 3, Old: row(0, numbersOf(1)), New: a}, "New without an Id": {Id: 3, Old: a, New: row(0, numbersOf(1))}, "both without": {Id: 3, Old: row(0, numbersOf(1)), New: row(0, numbersOf(1))},
		"too few cells": insert(row(3)), "too many cells": insert(row(3, nil, nil)), "too few cells went": remove(row(3)), "too many cells of Old": modify(row(3, nil, nil), a), "too few cells of New": modify(a, row(3)), "no set": insert(row(3, numbersOf(2, 1))), "no set of Old": modify(row(3, numbersOf(1, 1)), a), "no set of New": modify(a, row(3, make([]impl.Atom, 1))),
	} {
		updateJsonIs(t, what, columns, u, "", impl.ErrBad)
		updateJsonIs(t, what+", and no name", columnsOf("9"), u, "", impl.ErrBad)
	}
	for _, names := range [][]string{nil, {""}, {"9"}, {"a", "b"}, {strings.Repeat("a", impl.MaxName+1)}, slices.Repeat(columnsOf("a"), 7), slices.Repeat(columnsOf("a"), impl.MaxList)} {
		for _, u := range updates(insert(a), remove(a), modify(a, one(3, 2))) {
			updateJsonIs(t, "other columns", names, u, "", impl.ErrBad)
		}
	}
	seven := row(3, make([][]impl.Atom, 7)...)
	updateJsonIs(t, "MaxColumns and one more", columnsOf("a", "b", "c", "d", "e", "f", "g"), insert(seven), "", impl.ErrBad)
	updateJsonIs(t, "one name seven times", slices.Repeat(columnsOf("a"), 7), remove(seven), "", impl.ErrBad)
}

func TestRequestsThatAreRead(t *testing.T) {
	for told, q := range map[string]impl.Request{
		`{"id":1,"method":"echo","params":[]}`:                                {Id: 1, Method: "echo"},
		`{"params":[1,[2]],"id":-3,"method":"echo"}`:                          {Id: -3, Method: "echo", Params: []impl.Json{number(1), list(number(2))}},
		`{"id":0,"method":"","params":[null]}`:                                {Params: []impl.Json{null()}},
		`{"id":1000000000,"method":"no such","params":[{}]}`:                  {Id: 1000000000, Method: "no such", Params: []impl.Json{object(nil)}},
		`{"id":-1000000000,"method":"a","params":["b",true,{"a":[{"b":1}]}]}`: {Id: -1000000000, Method: "a", Params: []impl.Json{text("b"), truth(true), said(`{"a":[{"b":1}]}`)}},
	} {
		requestIs(t, "a request", said(told), q, impl.OK)
	}
	requestIs(t, "the deepest parameters", object(keys("id", "method", "params"), number(1), text("a"), nested(number(2), 10, false)), impl.Request{Id: 1, Method: "a", Params: []impl.Json{nested(number(2), 9, false)}}, impl.OK)
	requestIs(t, "the most parameters", object(keys("id", "method", "params"), number(1), text("a"), numbers(396)), impl.Request{Id: 1, Method: "a", Params: numbers(396).Items}, impl.OK)
	for _, told := range []string{
		"null", "1", "true", `"a"`, "[]", "{}", `["id",1]`, `[1,"a",[]]`, `{"id":1}`, `{"id":1,"method":"a"}`, `{"id":1,"params":[]}`, `{"method":"a","params":[]}`, `{"id":1,"method":"a","params":[],"x":1}`, `{"":1,"id":1,"method":"a","params":[]}`, `{"id":1,"method":"a","params":[],"zz":null}`, `{"id":1,"jd":1,"method":"a","params":[]}`,
		`{"id":null,"method":"a","params":[]}`, `{"id":"1","method":"a","params":[]}`, `{"id":true,"method":"a","params":[]}`, `{"id":[1],"method":"a","params":[]}`, `{"id":{},"method":"a","params":[]}`, `{"id":1,"method":2,"params":[]}`, `{"id":1,"method":null,"params":[]}`, `{"id":1,"method":["a"],"params":[]}`, `{"id":1,"method":true,"params":[]}`,
		`{"id":1,"method":"a","params":{}}`, `{"id":1,"method":"a","params":{"a":1}}`, `{"id":1,"method":"a","params":null}`, `{"id":1,"method":"a","params":1}`, `{"id":1,"method":"a","params":"a"}`, `{"id":1,"method":"a","params":true}`, `{"ID":1,"method":"a","params":[]}`, `{"id":1,"metho":"a","params":[]}`, `{"id":1,"method":"a","param":[]}`,
	} {
		requestIs(t, "no request", said(told), impl.Request{}, impl.ErrForm)
	}
}

func TestRepliesThatAreTold(t *testing.T) {
	for _, told := range []string{"null", "1", "-1", "true", `"a"`, "[]", "{}", "[1]", `{"error":"bad"}`, `[{"uuid":["uuid",7]},{"count":2}]`} {
		for _, id := range []int{-1000000000, -1, 0, 1, 7, 1000000000} {
			replyJsonIs(t, "a result", id, impl.OK, said(told), fmt.Sprintf(`{"error":null,"id":%d,"result":%s}`, id, told), impl.OK)
			for code := 1; code <= 19; code++ {
				replyJsonIs(t, "a code", id, code, said(told), fmt.Sprintf(`{"error":"%s","id":%d,"result":null}`, impl.CodeWord(code), id), impl.OK)
			}
			for _, code := range []int{math.MinInt, -1, 20, 21, 1 << 32, math.MaxInt} {
				replyJsonIs(t, "no code", id, code, said(told), "", impl.ErrBad)
			}
		}
		for _, id := range []int{math.MinInt, -1000000001, 1000000001, math.MaxInt} {
			for _, code := range []int{impl.OK, impl.ErrBad, impl.ErrMethod, 20} {
				replyJsonIs(t, "no Id", id, code, said(told), "", impl.ErrBad)
			}
		}
	}
}

func TestRepliesThatAreDeepOrOfManyParts(t *testing.T) {
	deepest, most := nested(number(1), 10, false), numbers(396)
	for what, j := range map[string]impl.Json{"deep": deepest, "deep with nothing": nested(list(), 10, false), "deep objects": nested(number(1), 10, true), "many parts": most, "many fields": fields(396)} {
		printed, _ := impl.PrintJson(j)
		replyJsonIs(t, what, 7, impl.OK, j, `{"error":null,"id":7,"result":`+printed+"}", impl.OK)
		replyJsonIs(t, what, 7, impl.ErrMany, j, `{"error":"many","id":7,"result":null}`, impl.OK)
	}
	for what, j := range map[string]impl.Json{"too deep": nested(number(1), 11, false), "too deep with nothing": nested(list(), 11, false), "too deep an object": nested(number(1), 11, true), "too many parts": numbers(397), "the most parts": numbers(399), "too many fields": fields(397), "one too many": list(numbers(395), number(1))} {
		replyJsonIs(t, what, 7, impl.OK, j, "", impl.ErrDeep)
		replyJsonIs(t, what+", no Id", 1000000001, impl.OK, j, "", impl.ErrBad)
		replyJsonIs(t, what+", no code", 7, 20, j, "", impl.ErrBad)
		replyJsonIs(t, what+", with a code", 7, impl.ErrMany, j, `{"error":"many","id":7,"result":null}`, impl.OK)
	}
}
