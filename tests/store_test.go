package tests

import (
	"fmt"
	"math"
	"reflect"
	"slices"
	"strings"
	"testing"

	"loop.example/g00524/impl"
)

func row(id int, cells ...[]impl.Atom) impl.Row { return impl.Row{Id: id, Cells: cells} }

func rows(list ...impl.Row) []impl.Row { return list }

func store(next int, tables ...[]impl.Row) impl.Store {
	return impl.Store{Tables: tables, Next: next}
}

// ids answers a set of rows.
func ids(list ...int) []impl.Atom {
	var d []impl.Atom
	for _, n := range list {
		d = append(d, idAtom(n))
	}
	return d
}

func word(s string) []impl.Atom { return atoms(textAtom(s)) }

// The rows of the plain schema.
func noteRow(id int, name string, about ...int) impl.Row { return row(id, word(name), ids(about...)) }

func portRow(id int, name string) impl.Row { return row(id, word(name), nil, atoms(boolAtom(0))) }

func switchRow(id int, name string, ports ...int) impl.Row {
	return row(id, word(name), atoms(intAtom(0)), ids(ports...))
}

// smallStore is a right one of the plain schema.
func smallStore() impl.Store {
	return store(20,
		rows(noteRow(5, "n", 2, 7), noteRow(9, "n")),
		rows(portRow(2, "p"), portRow(7, "q")),
		rows(switchRow(3, "s", 2), switchRow(8, "t", 2, 7)))
}

// copyRow answers a row that is alike and shares nothing; its lists are not nil.
func copyRow(r impl.Row) impl.Row {
	cells := make([][]impl.Atom, len(r.Cells))
	for i, d := range r.Cells {
		cells[i] = append(atoms(), d...)
		if cells[i] == nil {
			cells[i] = []impl.Atom{}
		}
	}
	return impl.Row{Id: r.Id, Cells: cells}
}

// copyStore answers a store that is alike and shares nothing; its lists are not nil.
func copyStore(x impl.Store) impl.Store {
	tables := make([][]impl.Row, len(x.Tables))
	for i := range x.Tables {
		tables[i] = make([]impl.Row, len(x.Tables[i]))
		for k := range x.Tables[i] {
			tables[i][k] = copyRow(x.Tables[i][k])
		}
	}
	return impl.Store{Tables: tables, Next: x.Next}
}

// brief tells the beginning of what may be long.
func brief(v any) string {
	told := fmt.Sprint(v)
	return told[:min(len(told), 300)]
}

func alikeRows(a, b impl.Row) bool { return reflect.DeepEqual(copyRow(a), copyRow(b)) }

func alikeStores(a, b impl.Store) bool { return reflect.DeepEqual(copyStore(a), copyStore(b)) }

// withRow answers a store with one row at a place of a table's list, whatever its Id.
func withRow(x impl.Store, table, place int, r impl.Row) impl.Store {
	made := copyStore(x)
	made.Tables[table] = slices.Insert(made.Tables[table], place, r)
	return made
}

// withCell answers a store with one cell that is another one.
func withCell(x impl.Store, table, place, column int, d []impl.Atom) impl.Store {
	made := copyStore(x)
	made.Tables[table][place].Cells[column] = d
	return made
}

func withNext(x impl.Store, next int) impl.Store {
	made := copyStore(x)
	made.Next = next
	return made
}

// storeIs tells whether a store fits a schema, as StrongCount tells it, and whether it is right.
func storeIs(t *testing.T, what string, s impl.Schema, x impl.Store, fits, right bool) {
	t.Helper()
	if got := impl.StoreOK(s, x); got != right {
		t.Errorf("%s: StoreOK is %v", what, got)
	}
	for table := -1; table <= min(len(x.Tables), 9); table++ {
		for _, id := range []int{math.MinInt, -1, 0, 1, 2, 3, 1000000, math.MaxInt} {
			n, code := impl.StrongCount(s, x, table, id)
			if (code == impl.ErrBad) == fits || code != impl.OK && n != 0 {
				t.Errorf("%s: StrongCount(%d, %d) is %d, %d", what, table, id, n, code)
			}
		}
	}
}

// countIs tells what StrongCount answers.
func countIs(t *testing.T, what string, s impl.Schema, x impl.Store, table, id, want, wantCode int) {
	t.Helper()
	if n, code := impl.StrongCount(s, x, table, id); n != want || code != wantCode {
		t.Errorf("%s: StrongCount(%d, %d) is %d, %d, not %d, %d", what, table, id, n, code, want, wantCode)
	}
}

// found tells what RowAt answers.
func found(t *testing.T, what string, x impl.Store, table, id int, want impl.Row, wantCode int) {
	t.Helper()
	if r, code := impl.RowAt(x, table, id); !alikeRows(r, want) || code != wantCode {
		t.Errorf("%s: RowAt(%d, %d) is %s, %d, not %s, %d", what, table, id, brief(r), code, brief(want), wantCode)
	}
}

// put tells what PutRow answers.
func put(t *testing.T, what string, x impl.Store, table int, r impl.Row, want impl.Store, wantCode int) impl.Store {
	t.Helper()
	made, code := impl.PutRow(x, table, r)
	if !alikeStores(made, want) || code != wantCode {
		t.Errorf("%s: PutRow(%d, %s) is %s, %d, not %s, %d", what, table, brief(r), brief(made), code, brief(want), wantCode)
	}
	return made
}

// drop tells what DropRow answers.
func drop(t *testing.T, what string, x impl.Store, table, id int, want impl.Store, wantCode int) impl.Store {
	t.Helper()
	made, code := impl.DropRow(x, table, id)
	if !alikeStores(made, want) || code != wantCode {
		t.Errorf("%s: DropRow(%d, %d) is %s, %d, not %s, %d", what, table, id, brief(made), code, brief(want), wantCode)
	}
	return made
}

func TestNewStores(t *testing.T) {
	for _, s := range someSchemas() {
		x, code := impl.NewStore(s)
		if !impl.SchemaOK(s) {
			if code != impl.ErrBad || !alikeStores(x, impl.Store{}) {
				t.Errorf("NewStore of the wrong schema %s is %s, %d", brief(s), brief(x), code)
			}
			continue
		}
		want := store(1, make([][]impl.Row, len(s.Tables))...)
		if code != impl.OK || !alikeStores(x, want) {
			t.Errorf("NewStore(%s) is %s, %d", brief(s), brief(x), code)
		}
		storeIs(t, "a new store", s, x, true, true)
		for table := range s.Tables {
			found(t, "a new store", x, table, 1, impl.Row{}, impl.ErrNone)
			countIs(t, "a new store", s, x, table, 1, 0, impl.ErrNone)
		}
	}
}

// kindsTable has a column of each kind.
func kindsTable() impl.Table {
	return impl.Table{Name: "t", Root: true, Columns: []impl.Column{intColumn(1, 2, -5, 5), textColumn(1, 2), boolColumn(1, 1), refColumn(2, "t", false)}}
}

// kindsRow is a right row of that table.
func kindsRow(id int) impl.Row {
	return row(id, atoms(intAtom(1)), word("a"), atoms(boolAtom(1)), nil)
}

func TestNumbersOfRows(t *testing.T) {
	for id, right := range map[int]bool{
		math.MinInt: false, -1000000: false, -1: false, 0: false, 1: true, 2: true, 999999: true, 1000000: true, 1000001: false, math.MaxInt: false,
	} {
		if impl.RowOK(kindsTable(), kindsRow(id)) != right {
			t.Errorf("RowOK of Id %d is %v", id, !right)
		}
	}
}

// cellCases are sets that a column of kindsTable has, and what Fits says of them.
func cellCases() []struct {
	column int
	cell   []impl.Atom
	fits   int
} {
	return []struct {
		column int
		cell   []impl.Atom
		fits   int
	}{
		{0, atoms(intAtom(-5)), impl.OK}, {0, atoms(intAtom(-5), intAtom(5)), impl.OK},
		{0, atoms(intAtom(-6)), impl.ErrRange}, {0, atoms(intAtom(6)), impl.ErrRange}, {0, atoms(intAtom(0), intAtom(6)), impl.ErrRange},
		{0, nil, impl.ErrMany}, {0, atoms(), impl.ErrMany}, {0, ints(0, 3), impl.ErrMany}, {0, ints(0, 8), impl.ErrMany},
		{0, word("1"), impl.ErrType}, {0, atoms(boolAtom(1)), impl.ErrType}, {0, ids(1), impl.ErrType},
		{0, atoms(intAtom(2), intAtom(1)), impl.ErrBad}, {0, atoms(intAtom(1), intAtom(1)), impl.ErrBad}, {0, atoms(impl.Atom{}), impl.ErrBad},
		{0, atoms(intAtom(1000000001)), impl.ErrBad}, {0, ints(0, 9), impl.ErrBad}, {0, ints(0, impl.MaxList+1), impl.ErrLong},
		{1, word(""), impl.OK}, {1, atoms(textAtom("a"), textAtom("b")), impl.OK}, {1, word(strings.Repeat("a", 200)), impl.OK},
		{1, nil, impl.ErrMany}, {1, atoms(textAtom("a"), textAtom("b"), textAtom("c")), impl.ErrMany}, {1, atoms(intAtom(1)), impl.ErrType},
		{1, word(strings.Repeat("a", 201)), impl.ErrBad}, {1, word("\n"), impl.ErrBad}, {1, atoms(textAtom("a"), intAtom(1)), impl.ErrBad},
		{2, atoms(boolAtom(0)), impl.OK}, {2, nil, impl.ErrMany}, {2, atoms(boolAtom(0), boolAtom(1)), impl.ErrMany}, {2, atoms(intAtom(1)), impl.ErrType}, {2, atoms(boolAtom(2)), impl.ErrBad},
		{3, nil, impl.OK}, {3, ids(7), impl.OK}, {3, ids(1, 1000000), impl.OK}, {3, ids(1, 2, 3), impl.ErrMany}, {3, atoms(intAtom(7)), impl.ErrType},
		{3, ids(0), impl.ErrBad}, {3, ids(1000001), impl.ErrBad}, {3, ids(7, 7), impl.ErrBad}, {3, ids(8, 7), impl.ErrBad},
	}
}

// The number 7 is a row's own, so that the set of one row refers to a row that is there.
func TestCellsOfRows(t *testing.T) {
	x, s := kindsTable(), schema(kindsTable())
	for _, c := range cellCases() {
		fit, code := impl.Fits(x.Columns[c.column], c.cell)
		if max(fit, code) != c.fits {
			t.Fatalf("Fits of column %d and %s is %d, %d", c.column, brief(c.cell), fit, code)
		}
		r := kindsRow(7)
		r.Cells[c.column] = c.cell
		if impl.RowOK(x, r) != (c.fits == impl.OK) {
			t.Errorf("RowOK of %s in column %d is %v", brief(c.cell), c.column, c.fits != impl.OK)
		}
		there := !slices.ContainsFunc(c.cell, func(a impl.Atom) bool { return a.Kind == impl.AtUuid && a.N != 7 })
		for _, y := range []impl.Store{store(9, rows(r)), store(9, rows(kindsRow(6), r, kindsRow(8))), store(9, rows(kindsRow(5), kindsRow(6), r))} {
			storeIs(t, fmt.Sprintf("%s in column %d", brief(c.cell), c.column), s, y, c.fits == impl.OK, c.fits == impl.OK && there)
		}
	}
}

func TestHowManyCellsARowHas(t *testing.T) {
	x, s := kindsTable(), schema(kindsTable())
	for count := range 4 {
		r := row(7, kindsRow(7).Cells[:count]...)
		if impl.RowOK(x, r) {
			t.Errorf("RowOK of %d cells is true", count)
		}
		storeIs(t, "fewer cells", s, store(9, rows(r)), false, false)
		storeIs(t, "fewer cells, last", s, store(9, rows(kindsRow(6), r)), false, false)
	}
	for _, more := range [][][]impl.Atom{{nil}, {{}}, {word("a")}, {nil, nil}, make([][]impl.Atom, impl.MaxList+1)} {
		r := row(7, append(kindsRow(7).Cells, more...)...)
		if impl.RowOK(x, r) {
			t.Errorf("RowOK of %d cells more is true", len(more))
		}
		storeIs(t, "more cells", s, store(9, rows(r)), false, false)
		storeIs(t, "more cells, first", s, store(9, rows(r, kindsRow(8))), false, false)
	}
	none := table("t", columns(1)...)
	for _, r := range []impl.Row{{Id: 1}, {Id: 1, Cells: [][]impl.Atom{}}} {
		if impl.RowOK(none, r) || impl.RowOK(impl.Table{}, r) || impl.RowOK(table("t"), r) {
			t.Errorf("RowOK of no cell is true")
		}
	}
	for _, r := range []impl.Row{row(1, nil), row(1, atoms())} {
		if !impl.RowOK(none, r) {
			t.Errorf("RowOK of an empty set is false")
		}
	}
}

func TestRowsOfTables(t *testing.T) {
	for name, x := range rightTables() {
		r := row(1)
		for _, c := range x.Columns {
			d, _ := impl.DefaultOf(c)
			r.Cells = append(r.Cells, d)
		}
		if !impl.RowOK(x, r) {
			t.Errorf("%s: RowOK of defaults is false", name)
		}
	}
	for name, x := range wrongTables() {
		r := row(1, make([][]impl.Atom, len(x.Columns))...)
		if impl.RowOK(x, r) || impl.RowOK(x, row(1)) {
			t.Errorf("%s: RowOK is true", name)
		}
	}
	elsewhere := table("t", refColumn(1, "u", true))
	if !impl.RowOK(elsewhere, row(1, ids(9))) {
		t.Error("RowOK of a table that refers to one that is not there is false")
	}
}

func TestNextAndIds(t *testing.T) {
	s := schema(kindsTable())
	for _, next := range []int{math.MinInt, -1, 0, 1, 2, 3, 999999, 1000000, 1000001, math.MaxInt} {
		within := next >= 1 && next <= 1000000
		storeIs(t, fmt.Sprintf("Next %d without rows", next), s, store(next, nil), within, within)
		for _, id := range []int{math.MinInt, -1, 0, 1, 2, 3, 999998, 999999, 1000000, 1000001, next - 1, next, math.MaxInt} {
			below := within && id >= 1 && id < next
			storeIs(t, fmt.Sprintf("Next %d and Id %d", next, id), s, store(next, rows(kindsRow(id))), below, below)
		}
	}
	for _, id := range []int{math.MinInt, -1, 0, 1} {
		storeIs(t, "an Id that is none ahead of others", s, store(9, rows(kindsRow(id), kindsRow(2), kindsRow(8))), id == 1, id == 1)
	}
	for _, id := range []int{8, 9, 10, math.MaxInt} {
		storeIs(t, "an Id beyond Next behind others", s, store(9, rows(kindsRow(1), kindsRow(2), kindsRow(id))), id == 8, id == 8)
	}
}

// someRows answers so many rows of kindsTable, with Ids from 1 on.
func someRows(count int) []impl.Row {
	var list []impl.Row
	for i := range count {
		list = append(list, kindsRow(i+1))
	}
	return list
}

func TestHowManyRowsATableHas(t *testing.T) {
	second := kindsTable()
	second.Name = "u"
	for _, count := range []int{0, 1, 2, 11, 12, 13, 24, impl.MaxList + 1} {
		fit := count <= impl.MaxRows
		x := someRows(count)
		storeIs(t, fmt.Sprintf("%d rows", count), schema(kindsTable()), store(9000, x), fit, fit)
		storeIs(t, fmt.Sprintf("%d rows ahead", count), schema(kindsTable(), second), store(9000, x, rows(kindsRow(8000))), fit, fit)
		storeIs(t, fmt.Sprintf("%d rows behind", count), schema(kindsTable(), second), store(9000, rows(kindsRow(8000)), x), fit, fit)
	}
}

func TestTablesOfAStore(t *testing.T) {
	s, x := impl.PlainSchema(), smallStore()
	storeIs(t, "as many tables", s, x, true, true)
	for count := range 3 {
		storeIs(t, fmt.Sprintf("%d tables", count), s, store(20, x.Tables[:count]...), false, false)
		storeIs(t, fmt.Sprintf("%d tables without rows", count), s, store(20, make([][]impl.Row, count)...), false, false)
	}
	storeIs(t, "an empty table more", s, store(20, append(copyStore(x).Tables, nil)...), false, false)
	storeIs(t, "a table more", s, store(20, append(copyStore(x).Tables, rows(noteRow(10, "n")))...), false, false)
	storeIs(t, "many tables", s, store(20, make([][]impl.Row, impl.MaxList+1)...), false, false)
	storeIs(t, "tables in another order", s, store(20, x.Tables[1], x.Tables[0], x.Tables[2]), false, false)
	storeIs(t, "nothing", s, impl.Store{}, false, false)
	storeIs(t, "empty tables", s, store(1, nil, rows(), nil), true, true)
}

func TestStoresOfWrongSchemas(t *testing.T) {
	for _, s := range someSchemas() {
		if !impl.SchemaOK(s) {
			storeIs(t, "a wrong schema", s, store(1, make([][]impl.Row, len(s.Tables))...), false, false)
			storeIs(t, "a wrong schema", s, smallStore(), false, false)
		}
	}
	wrong := impl.PlainSchema()
	wrong.Tables[0].Columns[1].Ref = "ports"
	storeIs(t, "a Ref to no table", wrong, smallStore(), false, false)
	storeIs(t, "another right schema", schema(someTables("a", "b", "c")...), smallStore(), false, false)
}

// fallingIds are lists of Ids that do not rise.
func fallingIds() [][]int {
	return [][]int{{2, 1}, {1, 1}, {1, 2, 1}, {1, 2, 2}, {2, 2, 3}, {1, 3, 2}, {3, 1, 2}, {1, 2, 3, 4, 5, 6, 7, 8, 9, 10, 12, 11}, {0, -1}, {math.MaxInt, math.MinInt}, {1, 1000000, 1}}
}

func TestIdsThatDoNotRise(t *testing.T) {
	second := kindsTable()
	second.Name = "u"
	s := schema(kindsTable(), second)
	for _, falling := range fallingIds() {
		var list []impl.Row
		for _, id := range falling {
			list = append(list, kindsRow(id))
		}
		for place := range 2 {
			x := store(1000000, rows(kindsRow(100), kindsRow(200)), rows(kindsRow(300)))
			x.Tables[place] = list
			storeIs(t, fmt.Sprint(falling), s, x, false, false)
			for table := -1; table <= 2; table++ {
				for _, id := range []int{100, 300, falling[0], 7} {
					found(t, fmt.Sprint(falling), x, table, id, impl.Row{}, impl.ErrBad)
					put(t, fmt.Sprint(falling), x, table, kindsRow(id), impl.Store{}, impl.ErrBad)
					drop(t, fmt.Sprint(falling), x, table, id, impl.Store{}, impl.ErrBad)
				}
			}
		}
	}
}

func TestIdsInTwoTables(t *testing.T) {
	s := impl.PlainSchema()
	for table, x := range s.Tables {
		for id := 1; id < 20; id++ {
			taken := slices.Contains([]int{2, 3, 5, 7, 8, 9}, id)
			var r impl.Row
			switch x.Name {
			case "note":
				r = noteRow(id, "new")
			case "switch":
				r = switchRow(id, "new")
			default:
				continue
			}
			if _, code := impl.RowAt(smallStore(), table, id); code == impl.OK {
				continue
			}
			made, _ := impl.PutRow(smallStore(), table, r)
			storeIs(t, fmt.Sprintf("Id %d again in %s", id, x.Name), s, made, true, !taken)
		}
	}
	port := withRow(smallStore(), 1, 1, portRow(3, "new"))
	storeIs(t, "a port with a switch's Id", s, withCell(port, 2, 1, 2, ids(2, 3, 7)), true, false)
	port = withRow(smallStore(), 1, 1, portRow(4, "new"))
	storeIs(t, "a port with an Id of its own", s, withCell(port, 2, 1, 2, ids(2, 4, 7)), true, true)
}

// refSchema has three tables, whose rows need nobody; each refers to the table to.
func refSchema(to string, strong bool) impl.Schema {
	var list []impl.Table
	for _, name := range []string{"a", "b", "c"} {
		list = append(list, impl.Table{Name: name, Root: true, Columns: []impl.Column{textColumn(0, 1), refColumn(8, to, strong)}})
	}
	return schema(list...)
}

// Table a has rows 1 and 2, b has 3 and 4, c has 5 and 6; there is no row 7.
func TestRowsThatAreReferredTo(t *testing.T) {
	of := map[string][]int{"a": {1, 2}, "b": {3, 4}, "c": {5, 6}}
	for to, there := range of {
		for id := 1; id <= 6; id++ {
			for bits := 1; bits < 1<<9; bits++ {
				var refs []int
				right := true
				for n := 1; n <= 9; n++ {
					if bits>>(n-1)&1 == 1 {
						refs = append(refs, n)
						right = right && slices.Contains(there, n)
					}
				}
				if len(refs) > 3 {
					continue
				}
				x := store(8)
				for _, name := range []string{"a", "b", "c"} {
					var list []impl.Row
					for _, n := range of[name] {
						list = append(list, row(n, nil, nil))
						if n == id {
							list[len(list)-1].Cells[1] = ids(refs...)
						}
					}
					x.Tables = append(x.Tables, list)
				}
				for _, strong := range []bool{false, true} {
					storeIs(t, fmt.Sprintf("row %d refers to %v of %s", id, refs, to), refSchema(to, strong), x, true, right)
				}
			}
		}
	}
}

func TestRefsAtTheGreatestNumbers(t *testing.T) {
	s := refSchema("a", false)
	last := store(1000000, rows(row(999999, nil, ids(999999))), nil, nil)
	storeIs(t, "its own row, the greatest", s, last, true, true)
	storeIs(t, "Next itself", s, withCell(last, 0, 0, 1, ids(1000000)), true, false)
	storeIs(t, "no row's number", s, withCell(last, 0, 0, 1, ids(1000001)), false, false)
	storeIs(t, "eight of which the last is not there", s, store(9, rows(row(1, nil, ids(1, 2, 3, 4, 5, 6, 7, 8)), row(2, nil, nil), row(3, nil, nil), row(4, nil, nil), row(5, nil, nil), row(6, nil, nil), row(7, nil, nil)), nil, nil), true, false)
}

// differing answers a row whose set in a column is {"v"} if its bit is set, else one of its own.
func differing(id, bits int) impl.Row {
	r := row(id)
	for k := range 3 {
		d := word(fmt.Sprintf("own%d", id))
		if bits>>k&1 == 1 {
			d = word("v")
		}
		r.Cells = append(r.Cells, d)
	}
	return r
}

func uniqueSchema(places ...int) impl.Schema {
	list := []impl.Column{called(textColumn(0, 8), "a"), called(textColumn(0, 8), "b"), called(textColumn(0, 8), "c")}
	first := impl.Table{Name: "s", Root: true, Columns: list}
	return schema(first, impl.Table{Name: "t", Root: true, Columns: list, Unique: places})
}

func TestRowsThatMustBeUnlike(t *testing.T) {
	for _, places := range [][]int{nil, {}, {0}, {1}, {2}, {0, 1}, {0, 2}, {1, 2}, {0, 1, 2}} {
		for bits := range 8 {
			alike := len(places) > 0
			for _, k := range places {
				alike = alike && bits>>k&1 == 1
			}
			what := fmt.Sprintf("Unique %v, alike in the columns of %03b", places, bits)
			a, b, other := differing(1, bits), differing(5, bits), differing(3, 0)
			s := uniqueSchema(places...)
			storeIs(t, what, s, store(9, nil, rows(a, b)), true, !alike)
			storeIs(t, what+", apart", s, store(9, nil, rows(a, other, b)), true, !alike)
			storeIs(t, what+", last", s, store(9, nil, rows(a, other, differing(4, 0), differing(6, bits))), true, !alike)
			storeIs(t, what+", in two tables", s, store(9, rows(a), rows(other, b)), true, true)
			storeIs(t, what+", in the table without Unique", s, store(9, rows(a, b), rows(other)), true, true)
		}
	}
}

func TestWhichSetsAreAlike(t *testing.T) {
	s := uniqueSchema(0)
	sets := [][]impl.Atom{nil, word(""), word("a"), atoms(textAtom(""), textAtom("a")), atoms(textAtom("a"), textAtom("b")), word("b"), word("ab"), atoms(textAtom("a"), textAtom("b"), textAtom("c"))}
	for i, a := range sets {
		for k, b := range sets {
			storeIs(t, fmt.Sprintf("%v and %v", a, b), s, store(9, nil, rows(row(1, a, nil, nil), row(2, b, nil, nil))), true, i != k)
		}
	}
	storeIs(t, "nil and empty", s, store(9, nil, rows(row(1, nil, nil, nil), row(2, []impl.Atom{}, nil, nil))), true, false)
	apart := uniqueSchema(0, 1)
	storeIs(t, "one set in one column, one in the other", apart, store(9, nil, rows(row(1, word("a"), word("b"), nil), row(2, word("b"), word("a"), nil))), true, true)
	self := schema(impl.Table{Name: "t", Root: true, Unique: []int{0}, Columns: []impl.Column{refColumn(8, "t", false)}})
	storeIs(t, "rows that refer to the same ones", self, store(9, rows(row(1, ids(1, 2)), row(2, ids(1, 2)))), true, false)
	storeIs(t, "rows that refer to themselves", self, store(9, rows(row(1, ids(1)), row(2, ids(2)))), true, true)
}

// heldSchema has a table h whose rows must be held: two columns of a, one of b and one of h itself hold them,
// one of a and one of h refer to them alone; a's last column holds rows of b.
func heldSchema() impl.Schema {
	to := func(name, ref string, strong bool) impl.Column { return called(refColumn(8, ref, strong), name) }
	return schema(
		impl.Table{Name: "a", Root: true, Columns: []impl.Column{to("x", "h", true), to("y", "h", true), to("z", "h", false), to("o", "b", true)}},
		impl.Table{Name: "b", Root: true, Columns: []impl.Column{to("x", "h", true)}},
		impl.Table{Name: "h", Columns: []impl.Column{to("own", "h", true), to("weak", "h", false)}},
	)
}

func TestWhoHoldsARow(t *testing.T) {
	lone := rows(row(1, nil, nil))
	for what, c := range map[string]struct {
		x      impl.Store
		counts map[int]int
		right  bool
	}{
		"nobody":                        {store(9, nil, nil, lone), map[int]int{1: 0}, false},
		"nobody of those who could":     {store(9, rows(row(5, nil, nil, nil, nil)), rows(row(6, nil)), lone), map[int]int{1: 0}, false},
		"a Strong column":               {store(9, rows(row(5, ids(1), nil, nil, nil)), nil, lone), map[int]int{1: 1}, true},
		"another Strong column":         {store(9, rows(row(5, nil, ids(1), nil, nil)), nil, lone), map[int]int{1: 1}, true},
		"a column that is not Strong":   {store(9, rows(row(5, nil, nil, ids(1), nil)), nil, lone), map[int]int{1: 0}, false},
		"a column of another table":     {store(9, nil, rows(row(6, ids(1))), lone), map[int]int{1: 1}, true},
		"its own":                       {store(9, nil, nil, rows(row(1, ids(1), nil))), map[int]int{1: 1}, true},
		"its own that is not Strong":    {store(9, nil, nil, rows(row(1, nil, ids(1)))), map[int]int{1: 0}, false},
		"two each other":                {store(9, nil, nil, rows(row(1, ids(2), nil), row(2, ids(1), nil))), map[int]int{1: 1, 2: 1}, true},
		"one another, it nobody":        {store(9, nil, nil, rows(row(1, ids(2), nil), row(2, nil, ids(1)))), map[int]int{1: 0, 2: 1}, false},
		"two sets of a row":             {store(9, rows(row(5, ids(1), ids(1), ids(1), nil)), nil, lone), map[int]int{1: 2}, true},
		"sets of three rows":            {store(9, rows(row(5, ids(1), nil, nil, nil), row(6, ids(1), nil, nil, nil), row(7, nil, nil, nil, nil), row(8, ids(1), nil, nil, nil)), nil, lone), map[int]int{1: 3}, true},
		"sets of all tables":            {store(9, rows(row(5, ids(1, 2), ids(1), ids(1, 2), ids(6))), rows(row(6, ids(1)), row(7, ids(2))), rows(row(1, ids(1, 2), ids(1)), row(2, ids(1), nil))), map[int]int{1: 5, 2: 3}, true},
		"one of two":                    {store(9, rows(row(5, ids(1), nil, nil, nil)), nil, rows(row(1, nil, nil), row(2, nil, nil))), map[int]int{1: 1, 2: 0}, false},
		"the other of two":              {store(9, rows(row(5, ids(2), nil, nil, nil)), nil, rows(row(1, nil, nil), row(2, nil, nil))), map[int]int{1: 0, 2: 1}, false},
		"a column that holds others":    {store(9, rows(row(5, nil, nil, nil, ids(1))), nil, lone), map[int]int{1: 0}, false},
		"a column that holds its like":  {store(9, rows(row(5, nil, nil, nil, ids(1))), rows(row(1, nil)), lone), map[int]int{1: 0}, false},
		"the last one of eight":         {store(99, rows(row(5, ids(1, 2, 3, 4, 6, 7, 8, 9), nil, nil, nil)), nil, rows(row(9, ids(9), nil))), map[int]int{9: 2}, false},
		"a set with one who is nowhere": {store(9, rows(row(5, ids(1, 3), nil, nil, nil)), nil, lone), map[int]int{1: 1}, false},
	} {
		storeIs(t, what, heldSchema(), c.x, true, c.right)
		for id, want := range c.counts {
			countIs(t, what, heldSchema(), c.x, 2, id, want, impl.OK)
		}
	}
	twice := store(9, rows(row(5, nil, nil, nil, ids(1))), rows(row(1, nil)), lone)
	countIs(t, "an Id in two tables", heldSchema(), twice, 1, 1, 1, impl.OK)
	countIs(t, "who holds", heldSchema(), twice, 0, 5, 0, impl.OK)
}

// Rows of a Root are held by nobody, or by somebody; it is counted all the same.
func TestRootsNeedNobody(t *testing.T) {
	s := heldSchema()
	s.Tables[2].Root = true
	for _, holders := range [][]impl.Row{nil, rows(row(5, ids(1), nil, nil, nil))} {
		x := store(9, holders, nil, rows(row(1, nil, nil)))
		storeIs(t, "a Root", s, x, true, true)
		countIs(t, "a Root", s, x, 2, 1, len(holders), impl.OK)
	}
}

func TestCountsOfThePlainSchema(t *testing.T) {
	s, x := impl.PlainSchema(), smallStore()
	storeIs(t, "a small store", s, x, true, true)
	for id, want := range map[int]int{2: 2, 7: 1} {
		countIs(t, "a port", s, x, 1, id, want, impl.OK)
	}
	for _, id := range []int{3, 8} {
		countIs(t, "a switch", s, x, 2, id, 0, impl.OK)
	}
	for table := range s.Tables {
		for _, id := range []int{math.MinInt, -1, 0, 1, 4, 19, 20, 21, 1000000, math.MaxInt} {
			countIs(t, "no row", s, x, table, id, 0, impl.ErrNone)
		}
	}
	countIs(t, "a port among the notes", s, x, 0, 2, 0, impl.ErrNone)
	countIs(t, "a port among the switches", s, x, 2, 2, 0, impl.ErrNone)
	for _, table := range []int{math.MinInt, -1, 3, 4, math.MaxInt} {
		for _, id := range []int{0, 2, 20} {
			countIs(t, "no table", s, x, table, id, 0, impl.ErrTable)
			countIs(t, "no table, no right store", s, withNext(x, 0), table, id, 0, impl.ErrBad)
			countIs(t, "no table, no right schema", impl.Schema{}, x, table, id, 0, impl.ErrBad)
		}
	}
	countIs(t, "no row, no right store", s, withNext(x, 8), 1, 4, 0, impl.ErrBad)
	countIs(t, "a store that fits, but is not right", s, withCell(x, 2, 0, 2, ids(2, 19)), 1, 2, 2, impl.OK)
}

func TestPlacesOfTables(t *testing.T) {
	x := smallStore()
	for _, table := range []int{math.MinInt, -1, 3, 4, math.MaxInt} {
		for _, id := range []int{math.MinInt, 0, 2, 5, 100} {
			found(t, "no table", x, table, id, impl.Row{}, impl.ErrTable)
			put(t, "no table", x, table, noteRow(id, "n"), impl.Store{}, impl.ErrTable)
			drop(t, "no table", x, table, id, impl.Store{}, impl.ErrTable)
			found(t, "no table at all", impl.Store{Next: 7}, table, id, impl.Row{}, impl.ErrTable)
			put(t, "no table at all", impl.Store{Next: 7}, table, row(id), impl.Store{}, impl.ErrTable)
			drop(t, "no table at all", impl.Store{Next: 7}, table, id, impl.Store{}, impl.ErrTable)
		}
	}
	found(t, "no table at all", impl.Store{Tables: [][]impl.Row{}}, 0, 1, impl.Row{}, impl.ErrTable)
}

func TestRowsThatAreNotThere(t *testing.T) {
	x := smallStore()
	for table := range 3 {
		for _, id := range []int{math.MinInt, -1, 0, 1, 4, 6, 10, 19, 20, math.MaxInt} {
			found(t, "no row", x, table, id, impl.Row{}, impl.ErrNone)
			drop(t, "no row", x, table, id, x, impl.ErrNone)
		}
	}
	for _, c := range [][2]int{{0, 2}, {0, 3}, {1, 3}, {1, 5}, {2, 5}, {2, 7}} {
		found(t, "another table's row", x, c[0], c[1], impl.Row{}, impl.ErrNone)
		drop(t, "another table's row", x, c[0], c[1], x, impl.ErrNone)
	}
	for _, empty := range []impl.Store{store(0, nil), store(-7, rows())} {
		found(t, "a table without rows", empty, 0, 1, impl.Row{}, impl.ErrNone)
		drop(t, "a table without rows", empty, 0, 1, empty, impl.ErrNone)
	}
}

// numbered answers a store of one table with so many rows, whose Ids are 10, 20 and so on.
func numbered(count int) impl.Store {
	var list []impl.Row
	for i := range count {
		list = append(list, row(10*(i+1), word(fmt.Sprint(i)), ids(i+1)))
	}
	return store(5, list)
}

func TestPutIntoFullTables(t *testing.T) {
	for _, count := range []int{11, 12, 13, 30, impl.MaxList + 1} {
		x := numbered(count)
		for _, id := range []int{math.MinInt, 0, 5, 15, 10*count + 1, math.MaxInt} {
			r := row(id, word("new"))
			if count < impl.MaxRows {
				place := slices.IndexFunc(x.Tables[0], func(r impl.Row) bool { return r.Id > id })
				if place < 0 {
					place = count
				}
				put(t, fmt.Sprintf("%d rows", count), x, 0, r, withRow(x, 0, place, r), impl.OK)
				continue
			}
			put(t, fmt.Sprintf("%d rows", count), x, 0, r, x, impl.ErrFull)
		}
		for _, place := range []int{0, 5, count - 1} {
			r := row(10*(place+1), nil, word("new"), word("more"))
			want := copyStore(x)
			want.Tables[0][place] = r
			put(t, fmt.Sprintf("%d rows, one that is there", count), x, 0, r, want, impl.OK)
			dropped := copyStore(x)
			dropped.Tables[0] = slices.Delete(dropped.Tables[0], place, place+1)
			drop(t, fmt.Sprintf("%d rows", count), x, 0, 10*(place+1), dropped, impl.OK)
			found(t, fmt.Sprintf("%d rows", count), x, 0, 10*(place+1), x.Tables[0][place], impl.OK)
		}
	}
}

// A full table hinders no other one.
func TestPutBesideFullTables(t *testing.T) {
	x := store(5, numbered(12).Tables[0], nil, numbered(13).Tables[0])
	want := withRow(x, 1, 0, row(7))
	put(t, "beside full tables", x, 1, row(7), want, impl.OK)
	put(t, "an Id of another table", x, 1, row(10), withRow(x, 1, 0, row(10)), impl.OK)
	put(t, "into a full table", want, 0, row(7), want, impl.ErrFull)
	put(t, "into a table that is more than full", want, 2, row(7), want, impl.ErrFull)
}

// Stores and rows need not be right, but for their Ids: what they have is put and told as it is.
func TestStoresThatAreNotRight(t *testing.T) {
	odd := row(math.MinInt, nil, atoms(impl.Atom{Kind: 9, N: math.MinInt, T: strings.Repeat("x", impl.MaxText+1)}), ints(0, impl.MaxList+1), atoms(intAtom(2), intAtom(1), textAtom("a")))
	for _, next := range []int{math.MinInt, 0, 1, 1000001, math.MaxInt} {
		x := store(next, nil, rows(row(-5), row(0, nil), row(math.MaxInt, word("z"))))
		want := withRow(x, 1, 0, odd)
		made := put(t, "an odd row", x, 1, odd, want, impl.OK)
		found(t, "an odd row", made, 1, math.MinInt, odd, impl.OK)
		found(t, "beside an odd row", made, 1, math.MaxInt, row(math.MaxInt, word("z")), impl.OK)
		found(t, "Id 0", made, 1, 0, row(0, nil), impl.OK)
		drop(t, "an odd row", made, 1, math.MinInt, x, impl.OK)
	}
	var wide impl.Store
	for i := range impl.MaxList + 2 {
		wide.Tables = append(wide.Tables, rows(row(i)))
	}
	last := len(wide.Tables) - 1
	found(t, "many tables", wide, last, last, row(last), impl.OK)
	put(t, "many tables", wide, last, row(-1), withRow(wide, last, 0, row(-1)), impl.OK)
	drop(t, "many tables", wide, last, 0, wide, impl.ErrNone)
}

func TestStoresThatAreTheSame(t *testing.T) {
	x := smallStore()
	changed := map[string]impl.Store{
		"Next":                     withNext(x, 21),
		"Next 0":                   withNext(x, 0),
		"one table less":           store(20, x.Tables[:2]...),
		"an empty table more":      store(20, append(copyStore(x).Tables, nil)...),
		"an empty table ahead":     store(20, append([][]impl.Row{nil}, x.Tables...)...),
		"no tables":                store(20),
		"nothing":                  {},
		"one row less":             store(20, x.Tables[0][:1], x.Tables[1], x.Tables[2]),
		"no row of the last table": store(20, x.Tables[0], x.Tables[1], nil),
		"a row more":               withRow(x, 1, 2, portRow(8, "p")),
		"a zero row more":          withRow(x, 2, 2, impl.Row{}),
		"a row twice":              withRow(x, 2, 2, x.Tables[2][1]),
		"tables in another order":  store(20, x.Tables[0], x.Tables[2], x.Tables[1]),
		"rows in another order":    store(20, x.Tables[0], rows(x.Tables[1][1], x.Tables[1][0]), x.Tables[2]),
		"an empty cell less":       store(20, x.Tables[0], x.Tables[1], rows(x.Tables[2][0], row(8, word("t"), atoms(intAtom(0))))),
		"a kind":                   withCell(x, 2, 1, 1, atoms(boolAtom(0))),
		"a number":                 withCell(x, 2, 1, 1, atoms(intAtom(1))),
		"a text":                   withCell(x, 0, 1, 0, word("m")),
		"a number of a text":       withCell(x, 0, 1, 0, atoms(impl.Atom{Kind: impl.AtText, N: 1, T: "n"})),
		"a text of a number":       withCell(x, 2, 1, 1, atoms(impl.Atom{Kind: impl.AtInt, T: "0"})),
		"an atom more":             withCell(x, 0, 1, 1, ids(2)),
		"a zero atom more":         withCell(x, 0, 1, 1, atoms(impl.Atom{})),
		"an atom less":             withCell(x, 0, 0, 1, ids(2)),
		"another last atom":        withCell(x, 0, 0, 1, ids(2, 8)),
		"atoms in another order":   withCell(x, 0, 0, 1, ids(7, 2)),
		"no atom":                  withCell(x, 0, 0, 1, nil),
		"an empty cell more": func() impl.Store {
			y := copyStore(x)
			y.Tables[0][1].Cells = append(y.Tables[0][1].Cells, nil)
			return y
		}(),
		"no cells": func() impl.Store { y := copyStore(x); y.Tables[1][0].Cells = nil; return y }(),
		"an Id":    func() impl.Store { y := copyStore(x); y.Tables[1][1].Id = 6; return y }(),
		"Id 0":     func() impl.Store { y := copyStore(x); y.Tables[0][0].Id = 0; return y }(),
	}
	for what, y := range changed {
		if impl.SameStore(x, y) || impl.SameStore(y, x) {
			t.Errorf("another one in %s: SameStore is true", what)
		}
		if !impl.SameStore(y, copyStore(y)) || !impl.SameStore(copyStore(y), y) || !impl.SameStore(y, y) {
			t.Errorf("alike in %s: SameStore is false", what)
		}
		for other, z := range changed {
			if impl.SameStore(y, z) != (what == other) {
				t.Errorf("%s and %s: SameStore is %v", what, other, what != other)
			}
		}
	}
}

func TestNilAndEmptyListsOfStoresAreTheSame(t *testing.T) {
	for _, pair := range [][2]impl.Store{
		{{}, {Tables: [][]impl.Row{}}},
		{store(3, nil), store(3, rows())},
		{store(3, rows(row(1))), store(3, rows(impl.Row{Id: 1, Cells: [][]impl.Atom{}}))},
		{store(3, rows(row(1, nil))), store(3, rows(row(1, []impl.Atom{})))},
		{smallStore(), copyStore(smallStore())},
	} {
		if !impl.SameStore(pair[0], pair[1]) || !impl.SameStore(pair[1], pair[0]) {
			t.Errorf("SameStore(%v) is false", pair)
		}
	}
}
