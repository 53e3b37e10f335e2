package tests

import (
	"fmt"
	"math"
	"strings"
	"testing"

	"loop.example/g00524/impl"
)

// monitor answers one that asks for all kinds of changes of a table.
func monitor(table string, columns []string, where ...impl.Cond) impl.Monitor {
	return impl.Monitor{Name: "m", Table: table, Columns: columns, Insert: true, Delete: true, Modify: true, Where: where}
}

func columnsOf(names ...string) []string { return names }

// monitorIs tells what hinders a monitor, in all calls that take one: of a store without rows and of no changes, too.
func monitorIs(t *testing.T, what string, s impl.Schema, m impl.Monitor, want, wantCode int) {
	t.Helper()
	if got, code := impl.MonitorCode(s, m); got != want || code != wantCode {
		t.Errorf("%s: MonitorCode is %d, %d, not %d, %d", what, got, code, want, wantCode)
	}
	if wantCode != impl.OK {
		want = wantCode
	}
	x, _ := impl.NewStore(s)
	viewIs(t, what, s, x, m, nil, want)
	updatesAre(t, what, s, m, nil, nil, want)
}

func viewIs(t *testing.T, what string, s impl.Schema, x impl.Store, m impl.Monitor, want []impl.Row, wantCode int) {
	t.Helper()
	if view, code := impl.Snapshot(s, x, m); !alike(view, want) || code != wantCode {
		t.Errorf("%s: Snapshot is %s, %d, not %s, %d", what, brief(view), code, brief(want), wantCode)
	}
}

func TestPlainMonitors(t *testing.T) {
	s, x := impl.PlainSchema(), smallStore()
	for _, c := range []struct {
		what string
		m    impl.Monitor
		want []impl.Row
	}{
		{"all of a note", monitor("note", columnsOf("name", "about")), x.Tables[0]},
		{"all of a port", monitor("port", columnsOf("name", "tag", "up")), x.Tables[1]},
		{"all of a switch", monitor("switch", columnsOf("name", "count", "ports")), x.Tables[2]},
		{"one column", monitor("port", columnsOf("name")), rows(row(2, word("p")), row(7, word("q")))},
		{"a column without atoms", monitor("port", columnsOf("tag")), rows(row(2, nil), row(7, nil))},
		{"columns in another order", monitor("switch", columnsOf("ports", "name")), rows(row(3, ids(2), word("s")), row(8, ids(2, 7), word("t")))},
		{"a column twice", monitor("switch", columnsOf("ports", "name", "ports")), rows(row(3, ids(2), word("s"), ids(2)), row(8, ids(2, 7), word("t"), ids(2, 7)))},
		{"as many as may be", monitor("note", columnsOf("name", "name", "about", "name", "name", "about")), rows(
			row(5, word("n"), word("n"), ids(2, 7), word("n"), word("n"), ids(2, 7)), row(9, word("n"), word("n"), nil, word("n"), word("n"), nil))},
		{"no columns", monitor("note", nil), rows(row(5), row(9))},
		{"no columns, some rows", monitor("switch", nil, nameIs("t")...), rows(row(8))},
		{"by a column that is not told", monitor("switch", columnsOf("count"), nameIs("s")...), rows(row(3, atoms(intAtom(0))))},
		{"by the Id", monitor("port", columnsOf("name"), idIs(7)...), rows(row(7, word("q")))},
		{"by what is not there", monitor("port", columnsOf("name"), idNot(2)...), rows(row(7, word("q")))},
		{"by two conditions", monitor("switch", columnsOf("name"), cond("ports", impl.CoIncludes, ids(2)...), cond("ports", impl.CoExcludes, ids(7)...)), rows(row(3, word("s")))},
		{"by two that no row is of", monitor("switch", columnsOf("name"), append(nameIs("s"), nameIs("t")...)...), nil},
		{"no row is of it", monitor("note", columnsOf("name"), nameIs("m")...), nil},
	} {
		monitorIs(t, c.what, s, c.m, impl.OK, impl.OK)
		viewIs(t, c.what, s, x, c.m, c.want, impl.OK)
	}
}

// What a monitor asks for, how it is called, and whether it asks for a beginning does not change what it sees.
func TestSnapshotsWhateverIsAskedFor(t *testing.T) {
	s, x := impl.PlainSchema(), smallStore()
	for bits := range 16 {
		for _, name := range []string{"m", "_", "Z9", strings.Repeat("m", impl.MaxName)} {
			m := monitor("port", columnsOf("name"), idIs(2)...)
			m.Name, m.Initial, m.Insert, m.Delete, m.Modify = name, bits&1 > 0, bits&2 > 0, bits&4 > 0, bits&8 > 0
			monitorIs(t, fmt.Sprint(bits), s, m, impl.OK, impl.OK)
			viewIs(t, fmt.Sprint(bits), s, x, m, rows(row(2, word("p"))), impl.OK)
		}
	}
}

func TestNamesOfMonitors(t *testing.T) {
	s := impl.PlainSchema()
	for name, right := range edgeNames() {
		m := monitor("port", columnsOf("name"))
		m.Name = name
		code := impl.ErrBad
		if right {
			code = impl.OK
		}
		monitorIs(t, "the name "+brief(name), s, m, impl.OK, code)
		m.Columns = columnsOf("x")
		if right {
			monitorIs(t, "no column, the name "+brief(name), s, m, impl.ErrColumn, impl.OK)
		} else {
			monitorIs(t, "no column, the name "+brief(name), s, m, impl.OK, impl.ErrBad)
		}
	}
}

func TestTablesOfMonitors(t *testing.T) {
	s := impl.PlainSchema()
	for _, name := range []string{"", "x", "Port", "port ", "por", "ports", "name", "_uuid", "9", "\x00", strings.Repeat("p", impl.MaxName)} {
		monitorIs(t, "the table "+name, s, monitor(name, nil), impl.ErrTable, impl.OK)
		monitorIs(t, "no column either, the table "+name, s, monitor(name, columnsOf("x", "_uuid"), cond("x", impl.CoEq)), impl.ErrTable, impl.OK)
	}
	for _, length := range []int{impl.MaxName + 1, impl.MaxText, impl.MaxText + 1} {
		monitorIs(t, fmt.Sprint("a table of bytes ", length), s, monitor(strings.Repeat("p", length), nil), impl.OK, impl.ErrBad)
	}
	long := strings.Repeat("t", impl.MaxName)
	s = schema(someTables("a", long, "z")...)
	for _, name := range []string{"a", long, "z"} {
		monitorIs(t, "a table that is there", s, monitor(name, nil), impl.OK, impl.OK)
	}
	monitorIs(t, "a table that begins so", s, monitor(long[1:], nil), impl.ErrTable, impl.OK)
}

func TestColumnsOfMonitors(t *testing.T) {
	s := impl.PlainSchema()
	for _, name := range []string{"", "x", "Name", "name ", "nam", "names", "count", "port", "_uuid", "_uui", "9", "\x00", strings.Repeat("n", impl.MaxName)} {
		for place := range 3 {
			list := columnsOf("name", "up", "tag")
			list[place] = name
			monitorIs(t, "the column "+name, s, monitor("port", list), impl.ErrColumn, impl.OK)
			monitorIs(t, "by what is none, too, the column "+name, s, monitor("port", list, cond("tag", impl.CoEq, textAtom("a"))), impl.ErrColumn, impl.OK)
		}
	}
	for _, length := range []int{impl.MaxName + 1, impl.MaxText, impl.MaxText + 1} {
		for _, table := range []string{"port", "x"} {
			monitorIs(t, fmt.Sprint("a column of bytes ", length), s, monitor(table, columnsOf("name", strings.Repeat("n", length))), impl.OK, impl.ErrBad)
			monitorIs(t, fmt.Sprint("behind one that is none, a column of bytes ", length), s, monitor(table, columnsOf("x", strings.Repeat("n", length))), impl.OK, impl.ErrBad)
		}
	}
	for count := range 2 * impl.MaxColumns {
		list := make([]string, count)
		for i := range list {
			list[i] = []string{"name", "about"}[i%2]
		}
		code := impl.OK
		if count > impl.MaxColumns {
			code = impl.ErrBad
		}
		monitorIs(t, fmt.Sprint(count, " columns"), s, monitor("note", list), impl.OK, code)
	}
	monitorIs(t, "MaxList columns", s, monitor("note", make([]string, impl.MaxList)), impl.OK, impl.ErrBad)
	monitorIs(t, "MaxList columns and one more", s, monitor("note", make([]string, impl.MaxList+1)), impl.OK, impl.ErrBad)
	monitorIs(t, "MaxColumns that are none", s, monitor("note", make([]string, impl.MaxColumns)), impl.ErrColumn, impl.OK)
}

// The Id is none of a monitor's Columns, unless a column is called so; Where may ask for it.
func TestIdsInMonitors(t *testing.T) {
	s, x := impl.PlainSchema(), smallStore()
	for _, table := range []string{"note", "port", "switch"} {
		monitorIs(t, "the Id alone", s, monitor(table, columnsOf("_uuid")), impl.ErrColumn, impl.OK)
		monitorIs(t, "the Id, too", s, monitor(table, columnsOf("name", "_uuid")), impl.ErrColumn, impl.OK)
		viewIs(t, "the Id, too", s, x, monitor(table, columnsOf("name", "_uuid")), nil, impl.ErrColumn)
		monitorIs(t, "by the Id", s, monitor(table, columnsOf("name"), idIs(2)...), impl.OK, impl.OK)
	}
	own := schema(table("t", called(intColumn(0, 1, 0, 9), "_uuid"), called(textColumn(0, 1), "name")))
	y := store(9, rows(row(2, atoms(intAtom(7)), word("a")), row(7, atoms(intAtom(2)), word("b"))))
	viewIs(t, "a column that is called so", own, y, monitor("t", columnsOf("_uuid")), rows(row(2, atoms(intAtom(7))), row(7, atoms(intAtom(2)))), impl.OK)
	viewIs(t, "by a column that is called so", own, y, monitor("t", columnsOf("name"), cond("_uuid", impl.CoEq, intAtom(2))), rows(row(7, word("b"))), impl.OK)
	monitorIs(t, "by the Id, where a column is called so", own, monitor("t", columnsOf("name"), idIs(2)...), impl.ErrType, impl.OK)
}

func TestWhereOfMonitors(t *testing.T) {
	s := schema(askedTable())
	for _, c := range []struct {
		what string
		c    impl.Cond
		want int
	}{
		{"no column", cond("x", impl.CoEq), impl.ErrColumn},
		{"a column of MaxName bytes", cond(strings.Repeat("n", impl.MaxName), impl.CoEq), impl.ErrColumn},
		{"no name", cond("", impl.CoEq), impl.ErrColumn},
		{"another kind", cond("one", impl.CoEq, textAtom("a")), impl.ErrType},
		{"an Id that is a number", cond("_uuid", impl.CoEq, intAtom(1)), impl.ErrType},
		{"an order of texts", cond("text", impl.CoLt, textAtom("a")), impl.ErrType},
		{"an order of several", cond("many", impl.CoGe, intAtom(1)), impl.ErrType},
		{"an order of nothing", cond("one", impl.CoGt), impl.ErrType},
		{"an order", cond("one", impl.CoLe, intAtom(1)), impl.OK},
		{"nothing", cond("many", impl.CoEq), impl.OK},
		{"the Id", cond("_uuid", impl.CoIncludes, ids(1)...), impl.OK},
	} {
		monitorIs(t, c.what, s, monitor("t", nil, c.c), c.want, impl.OK)
		monitorIs(t, c.what+", behind a right one", s, monitor("t", columnsOf("one"), cond("one", impl.CoEq), c.c), c.want, impl.OK)
		monitorIs(t, c.what+", ahead of a right one", s, monitor("t", columnsOf("one"), c.c, cond("one", impl.CoEq)), c.want, impl.OK)
		monitorIs(t, c.what+", and no column is told", s, monitor("t", columnsOf("none"), c.c), impl.ErrColumn, impl.OK)
		monitorIs(t, c.what+", and no table", s, monitor("u", columnsOf("none"), c.c), impl.ErrTable, impl.OK)
		viewIs(t, c.what+", and a store", s, store(9, rows(askedRow(3, "one", intAtom(12)))), monitor("t", nil, c.c), nil, impl.ErrBad)
	}
	column, kind := cond("x", impl.CoEq), cond("one", impl.CoEq, textAtom("a"))
	monitorIs(t, "the first code", s, monitor("t", nil, column, kind), impl.ErrColumn, impl.OK)
	monitorIs(t, "the first code", s, monitor("t", nil, kind, column), impl.ErrType, impl.OK)
	for count := range 12 {
		var where []impl.Cond
		for range count {
			where = append(where, cond("one", impl.CoEq))
		}
		code := impl.OK
		if count > 8 {
			code = impl.ErrBad
		}
		monitorIs(t, fmt.Sprint(count, " conditions"), s, monitor("t", nil, where...), impl.OK, code)
	}
	monitorIs(t, "MaxList conditions and one more", s, monitor("t", nil, make([]impl.Cond, impl.MaxList+1)...), impl.OK, impl.ErrBad)
}

func TestWrongWhereOfMonitors(t *testing.T) {
	s := schema(askedTable())
	x := store(9, rows(askedRow(7, "one", intAtom(1))))
	right, column := cond("one", impl.CoEq, intAtom(1)), cond("x", impl.CoEq)
	for what, wrong := range wrongConds() {
		for _, where := range [][]impl.Cond{conds(wrong), conds(right, wrong), conds(wrong, right), conds(column, wrong)} {
			for _, m := range []impl.Monitor{monitor("t", columnsOf("one"), where...), monitor("u", nil, where...), monitor("t", columnsOf("none"), where...)} {
				monitorIs(t, what, s, m, impl.OK, impl.ErrBad)
				viewIs(t, what, s, x, m, nil, impl.ErrBad)
			}
		}
	}
}

func TestSchemasOfMonitors(t *testing.T) {
	for i, s := range someSchemas() {
		want, wantCode := impl.OK, impl.OK
		if !impl.SchemaOK(s) {
			wantCode = impl.ErrBad
		} else if _, code := impl.TableOf(s, "t"); code != impl.OK {
			want = code
		}
		monitorIs(t, fmt.Sprint("schema ", i), s, monitor("t", nil), want, wantCode)
		if wantCode == impl.OK {
			monitorIs(t, fmt.Sprint("schema ", i), s, monitor("no table", nil), impl.ErrTable, impl.OK)
		} else {
			monitorIs(t, fmt.Sprint("schema ", i), s, monitor("no table", nil), impl.OK, impl.ErrBad)
		}
		monitorIs(t, fmt.Sprint("no name, schema ", i), s, impl.Monitor{Table: "t"}, impl.OK, impl.ErrBad)
		monitorIs(t, fmt.Sprint("nothing, schema ", i), s, impl.Monitor{}, impl.OK, impl.ErrBad)
	}
}

// unfit are stores that do not fit the plain schema, in each of the tables or in all of them.
func unfit() map[string]impl.Store {
	x := smallStore()
	wrong := map[string]impl.Store{
		"nothing": {}, "no tables": store(20), "a table less": store(20, x.Tables[:2]...), "a table more": store(20, append(copyStore(x).Tables, nil)...),
		"Next 0": withNext(x, 0), "Next is an Id": withNext(x, 9), "Next is too great": withNext(x, 1000001), "the least Next": withNext(x, math.MinInt),
		"a cell less in note": withRow(x, 0, 2, row(15, word("n"))), "a cell more in port": withRow(x, 1, 2, row(15, word("n"), nil, atoms(boolAtom(0)), nil)), "a zero row in note": withRow(x, 0, 0, impl.Row{}),
		"an Id of 0 in port": withRow(x, 1, 0, portRow(0, "r")), "an Id below in switch": withRow(x, 2, 0, switchRow(-3, "u")),
		"an Id twice in switch": withRow(x, 2, 1, switchRow(3, "u")), "an Id that falls in port": withRow(x, 1, 2, portRow(3, "u")),
		"an atom too few in note": withCell(x, 0, 1, 0, nil), "too many in port": withCell(x, 1, 0, 1, ints(0, 2)), "out of bounds in switch": withCell(x, 2, 1, 1, atoms(intAtom(1001))),
		"another kind in note": withCell(x, 0, 0, 1, atoms(intAtom(1))), "no set in switch": withCell(x, 2, 0, 2, ids(7, 2)), "no atom in port": withCell(x, 1, 1, 2, atoms(impl.Atom{})),
	}
	for table, name := range []string{"note", "port", "switch"} {
		wrong["thirteen rows in "+name] = withTable(withNext(x, 200), table, plainRows(table, 13))
	}
	return wrong
}

// plainRows are so many rows of a table of the plain schema, from 10 on.
func plainRows(table, count int) []impl.Row {
	var list []impl.Row
	for i := range count {
		list = append(list, []impl.Row{noteRow(10+i, fmt.Sprint(i)), portRow(10+i, fmt.Sprint(i)), switchRow(10+i, fmt.Sprint(i))}[table])
	}
	return list
}

func TestSnapshotsOfStoresThatDoNotFit(t *testing.T) {
	s := impl.PlainSchema()
	for what, x := range unfit() {
		for _, table := range []string{"note", "port", "switch", "x"} {
			for _, m := range []impl.Monitor{monitor(table, columnsOf("name")), monitor(table, nil, idIs(1)...), monitor(table, columnsOf("x")), monitor(table, nil, cond("x", impl.CoEq)), {Table: table}} {
				viewIs(t, what, s, x, m, nil, impl.ErrBad)
			}
		}
	}
}

// A store that fits need not be right: whoever refers to whom, and who is alike.
func TestSnapshotsOfStoresThatFit(t *testing.T) {
	s := impl.PlainSchema()
	loose := store(500, rows(noteRow(1, "n", 400)), rows(portRow(1, "p"), portRow(2, "p")), rows(switchRow(2, "s", 300), switchRow(3, "s")))
	if impl.StoreOK(s, loose) {
		t.Fatal("it is right")
	}
	viewIs(t, "a loose note", s, loose, monitor("note", columnsOf("about")), rows(row(1, ids(400))), impl.OK)
	viewIs(t, "loose ports", s, loose, monitor("port", columnsOf("name")), rows(row(1, word("p")), row(2, word("p"))), impl.OK)
	viewIs(t, "loose switches", s, loose, monitor("switch", columnsOf("ports")), rows(row(2, ids(300)), row(3, nil)), impl.OK)
	for table, name := range []string{"note", "port", "switch"} {
		x := store(1000000, nil, nil, nil)
		viewIs(t, "no rows", s, x, monitor(name, columnsOf("name")), nil, impl.OK)
		full := plainRows(table, impl.MaxRows)
		full[11].Id = 999999
		x.Tables[table] = full
		var want []impl.Row
		for _, r := range full {
			want = append(want, row(r.Id, r.Cells[0]))
		}
		viewIs(t, "a full table", s, x, monitor(name, columnsOf("name")), want, impl.OK)
		viewIs(t, "the last of a full table", s, x, monitor(name, columnsOf("name"), idIs(999999)...), want[11:], impl.OK)
		viewIs(t, "all but the last of a full table", s, x, monitor(name, columnsOf("name"), idNot(999999)...), want[:11], impl.OK)
	}
}

// sameIs tells what SameRows answers, both ways round.
func sameIs(t *testing.T, what string, a, b []impl.Row, want bool) {
	t.Helper()
	if impl.SameRows(a, b) != want || impl.SameRows(b, a) != want {
		t.Errorf("%s: SameRows of %s and %s is not %v", what, brief(a), brief(b), want)
	}
}

func TestSameRows(t *testing.T) {
	cells := cellsOfRows()
	for i, a := range cells {
		for k, b := range cells {
			sameIs(t, "one row", rows(row(4, a...)), rows(row(4, b...)), i == k)
			sameIs(t, "the first of two", rows(row(4, a...), row(5)), rows(row(4, b...), row(5)), i == k)
			sameIs(t, "the last of two", rows(row(3, nil), row(4, a...)), rows(row(3, nil), row(4, b...)), i == k)
		}
		sameIs(t, "another Id", rows(row(4, a...)), rows(row(5, a...)), false)
		sameIs(t, "another Id, below", rows(row(4, a...)), rows(row(-4, a...)), false)
		sameIs(t, "one row more", rows(row(4, a...)), rows(row(4, a...), row(5)), false)
		sameIs(t, "twice the same", rows(row(4, a...)), rows(row(4, a...), row(4, a...)), false)
		sameIs(t, "no row", rows(row(4, a...)), nil, false)
	}
	sameIs(t, "nothing", nil, nil, true)
	sameIs(t, "nothing and an empty list", nil, rows(), true)
	sameIs(t, "nil cells and none", rows(row(1)), rows(impl.Row{Id: 1, Cells: [][]impl.Atom{}}), true)
	sameIs(t, "a cell of nil and an empty one", rows(row(1, nil)), rows(row(1, []impl.Atom{})), true)
	sameIs(t, "a zero row and none", rows(impl.Row{}), nil, false)
	sameIs(t, "Ids that do not rise", rows(row(2), row(1)), rows(row(2), row(1)), true)
	sameIs(t, "another order", rows(row(2), row(1)), rows(row(1), row(2)), false)
	sameIs(t, "the least and the greatest Id", rows(row(math.MinInt), row(math.MaxInt)), rows(row(math.MinInt), row(math.MaxInt)), true)
}

// Lists are of at most MaxList rows; two that are longer are not told to be the same.
func TestSameRowsOfLongLists(t *testing.T) {
	for _, count := range []int{impl.MaxRows + 1, impl.MaxList - 1, impl.MaxList, impl.MaxList + 1, 2 * impl.MaxList} {
		a, b := rowsFrom(count), rowsFrom(count)
		sameIs(t, fmt.Sprint(count, " rows"), a, b, count <= impl.MaxList)
		sameIs(t, fmt.Sprint(count, " rows and one less"), a, b[:count-1], false)
		sameIs(t, fmt.Sprint(count, " rows and none"), a, nil, false)
		b[count-1].Cells = [][]impl.Atom{nil}
		sameIs(t, fmt.Sprint(count, " rows, the last is another one"), a, b, false)
	}
}
