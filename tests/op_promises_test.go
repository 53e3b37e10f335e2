package tests

import (
	"fmt"
	"math/rand"
	"reflect"
	"slices"
	"strings"
	"sync"
	"testing"

	"loop.example/g00524/impl"
)

// setsSay is what chapter 9 of the document says of the code of right sets in a table, told once more.
func setsSay(x impl.Table, list []impl.Set) int {
	seen := map[string]int{}
	for _, one := range list {
		kinds := map[string]int{}
		for _, c := range x.Columns {
			kinds[c.Name] = c.Kind
		}
		kind, there := kinds[one.Column]
		if !there {
			return impl.ErrColumn
		}
		if seen[one.Column]++; seen[one.Column] > 1 {
			return impl.ErrTwice
		}
		for _, a := range one.Value {
			if a.Kind != kind {
				return impl.ErrType
			}
		}
		if len(one.Names) > 0 && kind != impl.AtUuid {
			return impl.ErrType
		}
	}
	return impl.OK
}

// setRowSays is what the document says of right sets without Names and a row that fits.
func setRowSays(x impl.Table, r impl.Row, list []impl.Set) (impl.Row, int) {
	if code := setsSay(x, list); code != impl.OK {
		return impl.Row{}, code
	}
	made := copyRow(r)
	for _, one := range list {
		for i, c := range x.Columns {
			if c.Name == one.Column {
				if fit, _ := impl.Fits(c, one.Value); fit != impl.OK {
					return impl.Row{}, fit
				}
				made.Cells[i] = one.Value
			}
		}
	}
	return made, impl.OK
}

// opSays is what the document says of the code of a right operation in a right schema.
func opSays(s impl.Schema, o impl.Op) int {
	if o.Kind == impl.OpAssert && !impl.NameOK(o.Name) {
		return impl.ErrForm
	}
	if o.Kind > impl.OpWait {
		return impl.OK
	}
	place := slices.IndexFunc(s.Tables, func(x impl.Table) bool { return x.Name == o.Table })
	if place < 0 {
		return impl.ErrTable
	}
	x := s.Tables[place]
	codes := []int{}
	if o.Name != "" && !impl.NameOK(o.Name) {
		codes = append(codes, impl.ErrForm)
	}
	for _, name := range o.Columns {
		if kind, _, _ := askedSays(x, impl.Row{}, name); kind == 0 {
			codes = append(codes, impl.ErrColumn)
		}
	}
	for _, c := range o.Where {
		codes = append(codes, codeSays(x, c))
	}
	codes = append(codes, setsSay(x, o.Row))
	for _, m := range o.Muts {
		code := impl.ErrColumn
		for _, c := range x.Columns {
			if c.Name == m.Column {
				code = mutCodeSays(c, m)
			}
		}
		codes = append(codes, code)
	}
	codes = slices.DeleteFunc(codes, func(code int) bool { return code == impl.OK })
	return append(codes, impl.OK)[0]
}

// someSetOf answers a right set for a column, mostly one that fits; by Names now and then, if there may be any.
func someSetOf(r *rand.Rand, c impl.Column, names bool) impl.Set {
	if names && (c.Kind == impl.AtUuid && r.Intn(3) == 0 || r.Intn(30) == 0) {
		return naming(c.Name, slices.Repeat([]string{"p", "q_1", "P"}, 2)[:1+r.Intn(6)]...)
	}
	kind := c.Kind
	if r.Intn(25) == 0 {
		kind = 1 + r.Intn(4)
	}
	if r.Intn(8) == 0 {
		return set(c.Name, someSet(r, kind, 0, 8)...)
	}
	if kind == impl.AtInt && r.Intn(8) == 0 {
		return set(c.Name, append(someSet(r, kind, 0, 1), intAtom(4+r.Intn(3)))...)
	}
	return set(c.Name, someSet(r, kind, c.Min, c.Max)...)
}

// someRow answers sets for a table's row, mostly of different columns.
func someRow(r *rand.Rand, x impl.Table, names bool) []impl.Set {
	var list []impl.Set
	for _, i := range r.Perm(len(x.Columns))[:r.Intn(len(x.Columns)+1)] {
		list = append(list, someSetOf(r, x.Columns[i], names))
	}
	if r.Intn(8) == 0 && len(list) < impl.MaxColumns {
		list = append(list, someSetOf(r, x.Columns[r.Intn(len(x.Columns))], names))
	}
	if r.Intn(12) == 0 && len(list) < impl.MaxColumns {
		list = slices.Insert(list, r.Intn(len(list)+1), set([]string{"_uuid", "none", ""}[r.Intn(3)], someSet(r, 1+r.Intn(4), 0, 2)...))
	}
	return list
}

// setIsThere tells that what SetRow set is there, and that the other cells and the Id are as they were.
func setIsThere(t *testing.T, x impl.Table, given impl.Row, list []impl.Set) int {
	t.Helper()
	made, code := impl.SetRow(x, given, list)
	if code != impl.OK {
		if made.Id != 0 || len(made.Cells) != 0 {
			t.Errorf("SetRow(%s, %s) is %s beside %d", brief(given), brief(list), brief(made), code)
		}
		return code
	}
	if made.Id != given.Id || !impl.RowOK(x, made) {
		t.Errorf("SetRow(%s, %s) is %s", brief(given), brief(list), brief(made))
		return code
	}
	set := map[int]bool{}
	for _, one := range list {
		place, _ := impl.ColumnOf(x, one.Column)
		set[place] = true
		if !slices.Equal(made.Cells[place], one.Value) {
			t.Errorf("SetRow(%s, %s): cell %d is %s", brief(given), brief(list), place, brief(made.Cells[place]))
		}
		pickIs(t, "what was set", x, made, []string{one.Column}, row(given.Id, one.Value), impl.OK)
	}
	for i := range given.Cells {
		if !set[i] && !slices.Equal(made.Cells[i], given.Cells[i]) {
			t.Errorf("SetRow(%s, %s): cell %d does not stay: %s", brief(given), brief(list), i, brief(made.Cells[i]))
		}
	}
	return code
}

// All sets of few atoms of each kind, into all cells of such sets, in each column of a table.
func TestPromise9AllSetsOfFewAtoms(t *testing.T) {
	few := fewAtoms()
	for most := 1; most <= 3; most++ {
		for least := range 2 {
			x := table("t", called(intColumn(least, most, -99, 99), "a"), called(textColumn(least, most), "b"), called(boolColumn(least, most), "c"), called(refColumn(most, "t", true), "d"))
			done := 0
			for i, c := range x.Columns {
				for _, some := range few {
					some = sortedOnce(some)
					if some[0].Kind != c.Kind {
						continue
					}
					for _, d := range eachSubset(some) {
						given, _ := impl.FreshRow(x, 7)
						given.Cells[i] = d
						if !impl.RowOK(x, given) {
							continue
						}
						for _, value := range eachSubset(some) {
							list := sets(impl.Set{Column: c.Name, Value: value})
							if setIsThere(t, x, given, list) == impl.OK {
								done++
							}
							want, code := setRowSays(x, given, list)
							setRowIs(t, "few atoms", x, given, list, want, code)
						}
					}
				}
			}
			if done < 20 {
				t.Errorf("only %d were set", done)
			}
		}
	}
}

// All ways to set some of six cells, and to leave the others.
func TestPromise9SomeOfTheCells(t *testing.T) {
	x, given := askedTable(), fullRow(7)
	others := [][]impl.Atom{nil, numbersOf(-5), ints(5, 8), atoms(textAtom(""), textAtom("b")), nil, ids(7)}
	for bits := range 1 << len(x.Columns) {
		var list []impl.Set
		want := copyRow(given)
		for i, c := range x.Columns {
			if bits>>i&1 == 1 {
				list = append(list, set(c.Name, others[i]...))
				want.Cells[i] = others[i]
			}
		}
		for range max(1, len(list)) {
			setRowIs(t, fmt.Sprintf("cells %06b", bits), x, given, list, want, impl.OK)
			setIsThere(t, x, given, list)
			if len(list) > 0 {
				list = append(list[1:], list[0])
			}
		}
	}
}

func TestPromise9SomeRows(t *testing.T) {
	r := rand.New(rand.NewSource(9))
	codes := map[int]int{}
	for range 1500 {
		x := someAskedTable(r, "a")
		for _, given := range someAskedStore(r, schema(x)).Tables[0] {
			list := someRow(r, x, false)
			want, wantCode := setRowSays(x, given, list)
			setRowIs(t, "some sets", x, given, list, want, wantCode)
			setIsThere(t, x, given, list)
			if len(list) > 0 {
				codes[wantCode]++
			}
		}
	}
	if len(codes) != 6 || codes[impl.OK] < 2000 || codes[impl.ErrColumn] < 200 || codes[impl.ErrTwice] < 200 || codes[impl.ErrType] < 200 || codes[impl.ErrMany] < 200 || codes[impl.ErrRange] < 200 {
		t.Errorf("codes %v", codes)
	}
}

// What is set by one list is set by its two halves, by the list in any order, and once more by the same list.
func TestPromise9ListsInTwo(t *testing.T) {
	r := rand.New(rand.NewSource(99))
	done := 0
	for range 1500 {
		x := someAskedTable(r, "a")
		stored := someAskedStore(r, schema(x)).Tables[0]
		if len(stored) == 0 {
			continue
		}
		list := someRow(r, x, false)
		whole, code := impl.SetRow(x, stored[0], list)
		if code != impl.OK || len(list) < 2 {
			continue
		}
		done++
		for cut := range len(list) + 1 {
			front, _ := impl.SetRow(x, stored[0], list[:cut])
			setRowIs(t, "two halves", x, front, list[cut:], whole, impl.OK)
		}
		setRowIs(t, "once more", x, whole, list, whole, impl.OK)
		r.Shuffle(len(list), func(i, k int) { list[i], list[k] = list[k], list[i] })
		setRowIs(t, "in another order", x, stored[0], list, whole, impl.OK)
	}
	if done < 200 {
		t.Errorf("only %d lists were done", done)
	}
}

// freshHolds tells that a fresh row has DefaultOf in each cell, and is right for its table.
func freshHolds(t *testing.T, x impl.Table, id int) impl.Row {
	t.Helper()
	fresh, code := impl.FreshRow(x, id)
	if code != impl.OK || fresh.Id != id || len(fresh.Cells) != len(x.Columns) || !impl.RowOK(x, fresh) {
		t.Errorf("%s: FreshRow(%d) is %s, %d", brief(x), id, brief(fresh), code)
		return fresh
	}
	for i, c := range x.Columns {
		if d, code := impl.DefaultOf(c); code != impl.OK || !slices.Equal(fresh.Cells[i], d) {
			t.Errorf("%s: FreshRow(%d) has %s in cell %d, not %s", brief(x), id, brief(fresh.Cells[i]), i, brief(d))
		}
	}
	return fresh
}

// A fresh row into which all cells of another row are set is that row, but for its Id.
func TestPromise9FreshRows(t *testing.T) {
	r, right := rand.New(rand.NewSource(999)), 0
	for _, x := range rightTables() {
		freshHolds(t, x, 1)
		freshHolds(t, x, 1000000)
	}
	for _, c := range rightColumns() {
		freshHolds(t, table("t", c), 7)
		freshHolds(t, table("t", called(c, "a"), called(c, "b")), 7)
	}
	for range 1000 {
		x := impl.Table{Name: "t"}
		for k := range 1 + r.Intn(impl.MaxColumns) {
			x.Columns = append(x.Columns, called(someColumn(r), fmt.Sprint("c", k)))
		}
		if slices.ContainsFunc(x.Columns, func(c impl.Column) bool { return !impl.ColumnOK(c) }) {
			freshIs(t, "a wrong column", x, 7, impl.Row{}, impl.ErrBad)
			continue
		}
		right++
		freshHolds(t, x, 1+r.Intn(1000000))
	}
	if right < 200 {
		t.Errorf("only %d tables were right", right)
	}
	for range 500 {
		x := someAskedTable(r, "a")
		for _, other := range someAskedStore(r, schema(x)).Tables[0] {
			fresh := freshHolds(t, x, 500)
			var all []impl.Set
			for i, c := range x.Columns {
				all = append(all, set(c.Name, other.Cells[i]...))
			}
			setRowIs(t, "all cells of another row", x, fresh, all, row(500, other.Cells...), impl.OK)
		}
	}
}

// someAskedName answers the name of a column or the Id's, now and then one of nothing.
func someAskedName(r *rand.Rand, x impl.Table) string {
	if r.Intn(30) == 0 {
		return []string{"none", ""}[r.Intn(2)]
	}
	if r.Intn(4) == 0 {
		return "_uuid"
	}
	return x.Columns[r.Intn(len(x.Columns))].Name
}

// What is picked are the cells by their names, each as it is, however often and in whatever order.
func TestPromise9PickedColumns(t *testing.T) {
	r := rand.New(rand.NewSource(90))
	codes := map[int]int{}
	for range 1500 {
		x := someAskedTable(r, "a")
		for _, given := range someAskedStore(r, schema(x)).Tables[0] {
			want, wantCode := row(given.Id), impl.OK
			var names []string
			for range r.Intn(9) {
				name := someAskedName(r, x)
				names = append(names, name)
				kind, _, cell := askedSays(x, given, name)
				if kind == 0 {
					want, wantCode = impl.Row{}, impl.ErrColumn
				} else if wantCode == impl.OK {
					want.Cells = append(want.Cells, cell)
				}
			}
			codes[wantCode]++
			pickIs(t, "some columns", x, given, names, want, wantCode)
		}
	}
	if len(codes) != 2 || codes[impl.OK] < 2000 || codes[impl.ErrColumn] < 100 {
		t.Errorf("codes %v", codes)
	}
}

// someOp answers a right operation for a schema, mostly one that has no code.
func someOp(r *rand.Rand, s impl.Schema) impl.Op {
	x := s.Tables[r.Intn(len(s.Tables))]
	o := impl.Op{Kind: 1 + r.Intn(10)}
	uses, _ := partsOf(o.Kind)
	for _, part := range uses {
		switch part {
		case 'T':
			o.Table = x.Name
			if r.Intn(20) == 0 {
				o.Table = []string{"", "z", "A", "_uuid"}[r.Intn(4)]
			}
		case 'N':
			o.Name = []string{"", "p", "q_1", "_", "9", "any words"}[r.Intn(6)]
		case 'W':
			for range r.Intn(3) {
				o.Where = append(o.Where, someCond(r, x))
			}
		case 'R':
			o.Row = someRow(r, x, true)
		case 'M':
			for range r.Intn(4) {
				o.Muts = append(o.Muts, someMut(r, x))
			}
		case 'C':
			for range r.Intn(7) {
				o.Columns = append(o.Columns, someAskedName(r, x))
			}
		case 'U':
			o.Until = r.Intn(2) == 0
		}
	}
	return o
}

func TestPromise9CodesOfSomeOperations(t *testing.T) {
	r := rand.New(rand.NewSource(909))
	kinds, codes := map[int]int{}, map[int]int{}
	for range 1000 {
		s := schema(someAskedTable(r, "a"), someAskedTable(r, "b"))
		for range 30 {
			o := someOp(r, s)
			want := opSays(s, o)
			opCodeIs(t, "some operation", s, o, want)
			codes[want]++
			if want == impl.OK {
				kinds[o.Kind]++
			}
		}
	}
	if len(kinds) != 10 || len(codes) != 6 {
		t.Errorf("kinds %v, codes %v", kinds, codes)
	}
	for _, some := range []map[int]int{kinds, codes} {
		for n, count := range some {
			if count < 200 {
				t.Errorf("only %d of %d", count, n)
			}
		}
	}
}

// handed is what the calls of operations are given.
type handed struct {
	Schema impl.Schema
	Op     impl.Op
	Row    impl.Row
	Sets   []impl.Set
	Names  []string
	Out    impl.Result
}

// opAnswers are those of all calls of operations; empty lists and nil are told alike.
func opAnswers(h handed) []any {
	first, code := impl.OpCode(h.Schema, h.Op)
	all := []any{impl.OpOK(h.Op), first, code, impl.ResultOK(h.Out)}
	for _, x := range append(h.Schema.Tables[:len(h.Schema.Tables):len(h.Schema.Tables)], impl.Table{}) {
		picked, pickedCode := impl.PickColumns(x, h.Row, h.Names)
		made, madeCode := impl.SetRow(x, h.Row, h.Sets)
		fresh, freshCode := impl.FreshRow(x, h.Row.Id)
		all = append(all, copyRow(picked), pickedCode, copyRow(made), madeCode, copyRow(fresh), freshCode)
	}
	return all
}

// allHanded are arguments for askedTable and for others: with codes and without, right and wrong, none and too many.
func allHanded() []handed {
	ops := []impl.Op{
		{}, {Kind: 11}, {Kind: impl.OpCommit}, {Kind: impl.OpComment, Name: "any words"}, {Kind: impl.OpAssert, Name: "9"}, {Kind: impl.OpAssert, Name: "lock", Until: true}, {Kind: impl.OpSelect, Table: "t", Columns: []string{"one", "_uuid", "one"}, Where: conds(cond("many", impl.CoIncludes, ints(1, 3)...))},
		{Kind: impl.OpInsert, Table: "t", Name: "p", Row: sets(set("many", ints(1, 4)...), naming("ref", "p", "q", "p"))}, {Kind: impl.OpUpdate, Table: "t", Where: conds(cond("one", impl.CoLt, intAtom(1))), Row: sets(set("one"), set("one"))}, {Kind: impl.OpMutate, Table: "t", Muts: muts(mut("many", impl.MuInsert, ints(2, 5)...))},
		{Kind: impl.OpWait, Table: "t", Row: sets(set("x")), Until: true}, {Kind: impl.OpInsert, Table: "t", Row: make([]impl.Set, 7)}, {Kind: impl.OpSelect, Table: "t", Columns: make([]string, 7)}, {Kind: impl.OpDelete, Table: "t", Row: sets(set("one"))},
	}
	lists := [][]impl.Set{
		nil, {}, {set("many", ints(5, 8)...)}, {set("many", ints(5, 8)...), set("ref", ids(1, 2)...), set("text")}, {set("one", intAtom(99))}, {set("one"), set("one")}, {set("must")}, {set("x")}, {naming("ref", "p", "q")}, make([]impl.Set, 6), make([]impl.Set, 7), {set("many", intAtom(2), intAtom(1))},
	}
	names := [][]string{nil, {}, {"many"}, {"many", "_uuid", "many", "_uuid", "text"}, {"one", "must", "many", "text", "bool", "ref", "_uuid"}, {"x"}, {"many", ""}, slices.Repeat([]string{"many"}, 20)}
	results := []impl.Result{
		{}, {Code: 3}, {Code: 3, Count: 1}, {Count: 5, Id: 7}, {Columns: []string{"a", "b"}, Rows: rows(row(2, ints(1, 3), nil), row(1, nil, word("a")))}, {Columns: []string{"a"}, Rows: rows(row(1, nil, nil))}, {Columns: []string{"a"}, Rows: rows(row(1, numbersOf(2, 1)))}, {Rows: make([]impl.Row, 12)},
	}
	var all []handed
	for i, r := range append(someMutRows(), fullRow(7), fullRow(1000000)) {
		for k := range ops {
			n := i + k
			all = append(all, handed{schema(askedTable()), ops[k], r, lists[n%len(lists)], names[n%len(names)], results[n%len(results)]})
		}
		for k := range lists {
			all = append(all, handed{schema(askedTable()), ops[k%len(ops)], r, lists[k], names[(i+k)%len(names)], results[k%len(results)]})
		}
	}
	plain := handed{impl.PlainSchema(), impl.Op{Kind: impl.OpSelect, Table: "port", Columns: []string{"tag"}}, portRow(7, "p"), sets(set("tag", intAtom(5))), []string{"tag", "_uuid"}, impl.Result{Id: 1}}
	return append(all, plain, handed{Schema: impl.PlainSchema(), Row: switchRow(3, "s", 2, 7), Sets: sets(set("ports", ids(2)...)), Names: []string{"ports"}}, handed{})
}

// again answers a value that is alike and shares no list: its empty lists are nil or not, and have room behind their ends
// where something stands, or none.
func again(v reflect.Value, bare bool, room int) reflect.Value {
	made := reflect.New(v.Type()).Elem()
	switch v.Kind() {
	case reflect.Struct:
		for i := range v.NumField() {
			made.Field(i).Set(again(v.Field(i), bare, room))
		}
	case reflect.Slice:
		if bare && v.Len() == 0 {
			return made
		}
		made.Set(reflect.MakeSlice(v.Type(), v.Len()+room, v.Len()+room))
		for i := range v.Len() {
			made.Index(i).Set(again(v.Index(i), bare, room))
		}
		for i := range min(room, v.Len()) {
			made.Index(v.Len() + i).Set(again(v.Index(i), bare, room))
		}
		made.SetLen(v.Len())
	default:
		made.Set(v)
	}
	return made
}

func handedAgain(h handed, bare bool, room int) handed {
	return again(reflect.ValueOf(h), bare, room).Interface().(handed)
}

func TestPromise1OperationsAlikeAnswers(t *testing.T) {
	for _, h := range allHanded() {
		first := opAnswers(h)
		impl.SetRow(askedTable(), fullRow(9), sets(set("many", ints(0, 8)...)))
		impl.PickColumns(askedTable(), fullRow(9), []string{"many", "x"})
		impl.OpCode(impl.PlainSchema(), impl.Op{Kind: impl.OpInsert, Table: "port", Name: "p"})
		impl.FreshRow(askedTable(), 0)
		if second := opAnswers(handedAgain(h, false, 0)); !reflect.DeepEqual(first, second) {
			t.Errorf("%s: %s, then %s", brief(h), brief(first), brief(second))
		}
		if bare := opAnswers(handedAgain(h, true, 0)); !reflect.DeepEqual(first, bare) {
			t.Errorf("%s: %s, with nil for empty lists %s", brief(h), brief(first), brief(bare))
		}
	}
}

// wholeOf tells all of a value, also what stands behind its lists' ends.
func wholeOf(v reflect.Value) string {
	switch v.Kind() {
	case reflect.Struct:
		var told []string
		for i := range v.NumField() {
			told = append(told, wholeOf(v.Field(i)))
		}
		return "{" + strings.Join(told, " ") + "}"
	case reflect.Slice:
		var told []string
		for i := range v.Cap() {
			told = append(told, wholeOf(v.Slice(0, v.Cap()).Index(i)))
		}
		return fmt.Sprint(v.Len(), "[", strings.Join(told, " "), "]")
	case reflect.String:
		return fmt.Sprintf("%q", v.String())
	}
	return fmt.Sprint(v)
}

func TestPromise1OperationsStay(t *testing.T) {
	for _, h := range allHanded() {
		roomy := handedAgain(h, false, 2)
		before := wholeOf(reflect.ValueOf(roomy))
		answers := opAnswers(roomy)
		if after := wholeOf(reflect.ValueOf(roomy)); after != before {
			t.Fatalf("%s was changed: %s", before, after)
		}
		if tight := opAnswers(h); !reflect.DeepEqual(answers, tight) {
			t.Errorf("%s: room changes an answer", brief(h))
		}
	}
}

// rowIsNew tells that a row shares memory with nothing that was given, that no two of its lists share any, and that a spoilt one changes no next one.
func rowIsNew(t *testing.T, what string, h handed, answer func() impl.Row) {
	t.Helper()
	first := answer()
	isNew(t, what, first, h.Schema, h.Op, h.Row, h.Sets, h.Names, h.Out)
	want := copyRow(first)
	for i, d := range first.Cells {
		spoilAtoms(d)
		first.Cells[i] = nil
	}
	second := answer()
	if !alikeRows(second, want) {
		t.Errorf("%s: a spoilt answer changes the next one: %s, not %s", what, brief(second), brief(want))
	}
	isNew(t, what+" once more", second, first)
}

// allRowsAreNew tells it of all calls that answer rows.
func allRowsAreNew(t *testing.T, h handed) {
	t.Helper()
	for _, x := range h.Schema.Tables {
		rowIsNew(t, "PickColumns", h, func() impl.Row {
			r, _ := impl.PickColumns(x, h.Row, h.Names)
			return r
		})
		rowIsNew(t, "SetRow", h, func() impl.Row {
			r, _ := impl.SetRow(x, h.Row, h.Sets)
			return r
		})
		rowIsNew(t, "FreshRow", h, func() impl.Row {
			r, _ := impl.FreshRow(x, h.Row.Id)
			return r
		})
	}
}

func TestPromise1RowsOfOperationsAreNew(t *testing.T) {
	for _, h := range allHanded() {
		allRowsAreNew(t, h)
		allRowsAreNew(t, handedAgain(h, false, 2))
	}
}

// All cells of a row may be one list, a set's Value a row's own cell, and several sets may have one Value.
func TestPromise1OperationsThatShareMemory(t *testing.T) {
	all := withRoom(ints(0, 4))
	x := table("t", called(intColumn(0, 8, -99, 99), "a"), called(intColumn(0, 8, -99, 99), "b"), called(intColumn(0, 8, -99, 99), "c"))
	r := row(7, all, all, all[:2])
	before := slices.Clone(all[:cap(all)])
	for _, list := range [][]impl.Set{
		nil, {{Column: "a", Value: all}}, {{Column: "a", Value: all[1:]}, {Column: "b", Value: all[1:]}}, {{Column: "c", Value: all}, {Column: "b", Value: all[:1]}, {Column: "a", Value: all}},
	} {
		h := handed{Schema: schema(x), Row: r, Sets: list, Names: []string{"a", "b", "a", "c", "_uuid", "_uuid"}}
		allRowsAreNew(t, h)
		want, code := setRowSays(x, r, list)
		setRowIs(t, "shared memory", x, r, list, want, code)
		pickIs(t, "shared memory", x, r, h.Names, row(7, ints(0, 4), ints(0, 4), ints(0, 4), ints(0, 2), ids(7), ids(7)), impl.OK)
		if !slices.Equal(all[:cap(all)], before) {
			t.Fatalf("%s was changed", brief(all))
		}
	}
	made, _ := impl.SetRow(x, r, sets(impl.Set{Column: "a", Value: all}))
	all[0].N = 77
	if !alikeRows(made, row(7, ints(0, 4), ints(0, 4), ints(0, 2))) {
		t.Errorf("what is written into an argument is in the answer: %s", brief(made))
	}
}

func TestPromise1OperationsAtTheSameTime(t *testing.T) {
	given := allHanded()
	var all sync.WaitGroup
	for range 8 {
		all.Go(func() {
			for _, h := range given {
				first := opAnswers(h)
				if second := opAnswers(h); !reflect.DeepEqual(first, second) {
					t.Errorf("%s: %s, then %s", brief(h), brief(first), brief(second))
				}
			}
		})
	}
	all.Wait()
}
