package tests

import (
	"fmt"
	"slices"
	"strings"
	"testing"

	"loop.example/g00524/impl"
)

// withRows answers a store with rows behind those of a table, and with another Next.
func withRows(x impl.Store, next, table int, list ...impl.Row) impl.Store {
	made := withNext(x, next)
	made.Tables[table] = append(made.Tables[table], list...)
	return made
}

// portsOf answers the ports of the switches that a transaction leaves, by their names.
func portsOf(y impl.Store) map[string]string {
	ports := map[string]string{}
	for _, r := range y.Tables[2] {
		told := []string{}
		for _, a := range r.Cells[2] {
			told = append(told, fmt.Sprint(a.N))
		}
		ports[r.Cells[0][0].T] = strings.Join(told, " ")
	}
	return ports
}

func portOp(called string) impl.Op { return insertOp("port", called, nameSet("port "+called)) }

func switchOp(called string, names ...string) impl.Op {
	return insertOp("switch", called, nameSet("new "+called), naming("ports", names...))
}

// Names are those of inserts ahead, behind and of the same operation.
func TestNamesOfInsertedRows(t *testing.T) {
	s, x := impl.PlainSchema(), smallStore()
	for what, c := range map[string]struct {
		list []impl.Op
		want map[string]string
	}{
		"an insert ahead":                {ops(portOp("a"), switchOp("", "a")), map[string]string{"new ": "20"}},
		"an insert behind":               {ops(switchOp("", "a"), portOp("a")), map[string]string{"new ": "21"}},
		"the last of eight":              {append(slices.Repeat(ops(insertOp("note", "")), 6), switchOp("", "a"), portOp("a")), map[string]string{"new ": "27"}},
		"the first of eight":             {append(append(ops(portOp("a")), slices.Repeat(ops(insertOp("note", "")), 6)...), switchOp("", "a")), map[string]string{"new ": "20"}},
		"behind other kinds":             {ops(commitOp(), switchOp("", "a"), commentOp("a"), deleteOp("note"), portOp("a")), map[string]string{"new ": "21"}},
		"two, one ahead and one behind":  {ops(portOp("b"), switchOp("", "a", "b"), portOp("a")), map[string]string{"new ": "20 22"}},
		"one twice":                      {ops(portOp("a"), switchOp("", "a", "a", "a")), map[string]string{"new ": "20"}},
		"eight times, two of them":       {ops(portOp("a"), portOp("b"), switchOp("", "b", "a", "b", "a", "b", "b", "a", "a")), map[string]string{"new ": "20 21"}},
		"in two operations":              {ops(portOp("a"), switchOp("u", "a"), switchOp("v", "a")), map[string]string{"new u": "20", "new v": "20"}},
		"as long as a name may be":       {ops(switchOp("", strings.Repeat("n", 40)), portOp(strings.Repeat("n", 40))), map[string]string{"new ": "21"}},
		"beside names that begin so":     {ops(portOp("ab"), portOp("a"), portOp("A"), switchOp("", "a"), switchOp("h", "ab", "A")), map[string]string{"new ": "21", "new h": "20 22"}},
		"an update":                      {ops(updateOp("switch", nameIs("s"), naming("ports", "a")), portOp("a")), map[string]string{"s": "20"}},
		"an update of several":           {ops(portOp("a"), updateOp("switch", nil, naming("ports", "a", "b")), portOp("b")), map[string]string{"s": "20 21", "t": "20 21"}},
		"an update of one just inserted": {ops(switchOp("u"), updateOp("switch", nameIs("new u"), naming("ports", "a")), portOp("a")), map[string]string{"new u": "21"}},
		"an update of no row":            {ops(updateOp("switch", nameIs("x"), naming("ports", "a")), portOp("a"), switchOp("", "a")), map[string]string{"new ": "20"}},
		"the switch is called so too":    {ops(portOp("a"), switchOp("b", "a"), insertOp("note", "", naming("about", "b", "a"))), map[string]string{"new b": "20"}},
	} {
		y, told := txnHolds(t, what, s, x, c.list, nil)
		got := portsOf(y)
		for name, ports := range c.want {
			if got[name] != ports {
				t.Errorf("%s: the ports of %q are %q, not %q; the results are %s", what, name, got[name], ports, brief(told))
			}
		}
	}
}

// A row may name itself; it holds itself then, or refers to itself.
func TestNamesOfTheSameOperation(t *testing.T) {
	s := heldSchema()
	x, _ := impl.NewStore(s)
	doneAs(t, "it holds itself", s, x, ops(insertOp("h", "me", naming("own", "me"))), store(2, nil, nil, rows(row(1, ids(1), nil))), numberOf(1))
	doneAs(t, "it holds itself and refers to itself", s, x, ops(insertOp("h", "me", naming("weak", "me"), naming("own", "me"))), store(2, nil, nil, rows(row(1, ids(1), ids(1)))), numberOf(1))
	doneAs(t, "it refers to itself alone", s, x, ops(insertOp("h", "me", naming("weak", "me"))), store(2, nil, nil, nil), numberOf(1))
	doneAs(t, "it names itself and the next one", s, x, ops(insertOp("h", "me", naming("own", "next", "me")), insertOp("h", "next")), store(3, nil, nil, rows(row(1, ids(1, 2), nil), row(2, nil, nil))), numberOf(1), numberOf(2))
}

// Of two inserts with one Name the first one is meant; the second one has a code.
func TestTwoInsertsWithOneName(t *testing.T) {
	s, x := impl.PlainSchema(), smallStore()
	failsAs(t, "one behind the other", s, x, ops(portOp("a"), portOp("a")), numberOf(20), coded(impl.ErrTwice))
	failsAs(t, "apart", s, x, ops(portOp("a"), commitOp(), insertOp("note", "b"), insertOp("note", "a"), abortOp()), numberOf(20), impl.Result{}, numberOf(21), coded(impl.ErrTwice))
	failsAs(t, "three", s, x, ops(portOp("a"), portOp("b"), portOp("b"), portOp("a")), numberOf(20), numberOf(21), coded(impl.ErrTwice))
	failsAs(t, "into tables of which the first one is none", s, x, ops(insertOp("x", "a"), portOp("a")), coded(impl.ErrTable))
	fits := waitOp("switch", true, nameIs("new "), set("ports", idAtom(20)))
	failsAs(t, "named between them", s, x, ops(portOp("a"), switchOp("", "a"), fits, portOp("a")), numberOf(20), numberOf(21), impl.Result{}, coded(impl.ErrTwice))
	ahead := waitOp("switch", true, nameIs("new "), set("ports", idAtom(21)))
	failsAs(t, "named ahead of both", s, x, ops(switchOp("", "a"), ahead, portOp("a"), portOp("a")), numberOf(20), impl.Result{}, numberOf(21), coded(impl.ErrTwice))
	doneAs(t, "names in other letters", s, x, ops(insertOp("note", "a"), insertOp("note", "A"), insertOp("note", "aa")), withRows(x, 23, 0, noteRow(20, ""), noteRow(21, ""), noteRow(22, "")), numberOf(20), numberOf(21), numberOf(22))
	doneAs(t, "a comment and a lock of that name", s, x, ops(commentOp("a"), insertOp("note", "a"), commentOp("a")), withRows(x, 21, 0, noteRow(20, "")), impl.Result{}, numberOf(20), impl.Result{})
	doneAs(t, "without names", s, x, ops(insertOp("note", ""), insertOp("note", ""), insertOp("note", "a"), insertOp("note", "")), withRows(x, 24, 0, noteRow(20, ""), noteRow(21, ""), noteRow(22, ""), noteRow(23, "")), numberOf(20), numberOf(21), numberOf(22), numberOf(23))
	y := withRows(x, 21, 0, noteRow(20, ""))
	doneAs(t, "in the next transaction once more", s, y, ops(insertOp("note", "a")), withRows(y, 22, 0, noteRow(21, "")), numberOf(21))
}

// A Name of no insert is none: not of another operation, of a row that was there, of an insert of another transaction.
func TestNamesOfNone(t *testing.T) {
	s, x := impl.PlainSchema(), smallStore()
	for what, list := range map[string][]impl.Op{
		"no insert":                      ops(updateOp("switch", nil, naming("ports", "a"))),
		"no row is chosen":               ops(updateOp("switch", nameIs("x"), naming("ports", "a"))),
		"an insert without a name":       ops(insertOp("switch", "", naming("ports", "a"))),
		"a wait":                         ops(waitOp("note", true, nil, naming("about", "a"))),
		"a wait until it is not so":      ops(waitOp("note", false, nil, naming("about", "a"))),
		"a wait for no row":              ops(waitOp("note", false, nameIs("x"), naming("about", "a"))),
		"a name in a row that was there": ops(insertOp("switch", "", naming("ports", "p"))),
		"what an operation is called":    ops(insertOp("switch", "", naming("ports", "a")), commentOp("a")),
		"a lock":                         ops(insertOp("switch", "", naming("ports", "a")), assertOp("a")),
		"a longer name":                  ops(insertOp("switch", "", naming("ports", "a")), portOp("aa"), portOp("A")),
		"the last of some":               ops(insertOp("switch", "", naming("ports", "b", "c", "a")), portOp("b"), portOp("c")),
		"the first of some":              ops(insertOp("switch", "", naming("ports", "a", "b", "c")), portOp("b"), portOp("c")),
		"in a later set":                 ops(insertOp("switch", "", nameSet("u"), set("count", intAtom(5000)), naming("ports", "a"))),
	} {
		failsAs(t, what, s, x, list, coded(impl.ErrRef))
		failsAs(t, what+", behind another one", s, x, append(ops(insertOp("note", "z")), list...), numberOf(20), coded(impl.ErrRef))
	}
	doneAs(t, "a mutation has no names", s, x, ops(mutateOp("switch", nameIs("s"), mut("ports", impl.MuInsert, idAtom(7)))), withCell(x, 2, 0, 2, ids(2, 7)), counted(1))
}

// Names beside each other, until they are more than a column takes.
func TestHowManyNamesAColumnTakes(t *testing.T) {
	for most := 1; most <= 8; most++ {
		s := schema(impl.Table{Name: "t", Root: true, Columns: []impl.Column{refColumn(most, "t", true)}})
		x, _ := impl.NewStore(s)
		for count := 1; count <= 7; count++ {
			var list []impl.Op
			var names []string
			var told []impl.Result
			for i := range count {
				names = append(names, fmt.Sprint("n", i))
				list = append(list, insertOp("t", names[i]))
				told = append(told, numberOf(i+1))
			}
			what := fmt.Sprintf("%d names where %d may be", count, most)
			slices.Reverse(names)
			all := append(slices.Clone(list), insertOp("t", "", naming("r", names...)))
			if count > most {
				failsAs(t, what, s, x, all, append(slices.Clone(told), coded(impl.ErrMany))...)
				failsAs(t, what+", an update", s, x, append(slices.Clone(list), updateOp("t", nil, naming("r", names...))), append(slices.Clone(told), coded(impl.ErrMany))...)
				doneAs(t, what+", an update of no row", s, x, append(slices.Clone(list), updateOp("t", idIs(99), naming("r", names...))), withRows(x, count+1, 0, rowsWith(count)...), append(slices.Clone(told), counted(0))...)
				doneAs(t, what+", a wait", s, x, append(slices.Clone(list), waitOp("t", false, nil, naming("r", names...))), withRows(x, count+1, 0, rowsWith(count)...), append(slices.Clone(told), impl.Result{})...)
				continue
			}
			var held []int
			for i := range count {
				held = append(held, i+1)
			}
			doneAs(t, what, s, x, all, withRows(x, count+2, 0, append(rowsWith(count), row(count+1, ids(held...)))...), append(slices.Clone(told), numberOf(count+1))...)
		}
	}
}

// rowsWith answers so many rows from 1 on that have a cell of nothing.
func rowsWith(count int) []impl.Row {
	var list []impl.Row
	for i := range count {
		list = append(list, row(i+1, nil))
	}
	return list
}

func TestEightNamesAreMade(t *testing.T) {
	s := heldSchema()
	x, _ := impl.NewStore(s)
	var list []impl.Op
	names := []string{}
	for i := range 7 {
		names = append(names, fmt.Sprint("n", i))
		list = append(list, insertOp("h", names[i]))
	}
	list = append(list, insertOp("h", "me", naming("own", append(slices.Clone(names), "me")...)))
	y, told := txnHolds(t, "eight names", s, x, list, nil)
	if len(told) != 8 || len(y.Tables[2]) != 8 || !slices.Equal(y.Tables[2][7].Cells[0], ids(1, 2, 3, 4, 5, 6, 7, 8)) {
		t.Errorf("eight names: %s, %s", brief(y), brief(told))
	}
}

func TestInsertedRows(t *testing.T) {
	s, x := impl.PlainSchema(), smallStore()
	doneAs(t, "defaults", s, x, ops(insertOp("note", "")), withRows(x, 21, 0, noteRow(20, "")), numberOf(20))
	doneAs(t, "all cells", s, x, ops(insertOp("note", "", set("about", ids(2, 7)...), nameSet("m"))), withRows(x, 21, 0, noteRow(20, "m", 2, 7)), numberOf(20))
	doneAs(t, "a switch", s, x, ops(insertOp("switch", "", set("ports", ids(7)...), set("count", intAtom(-1000)))), withRows(x, 21, 2, row(20, word(""), numbersOf(-1000), ids(7))), numberOf(20))
	doneAs(t, "a cell of nothing", s, x, ops(insertOp("switch", "", set("ports"), nameSet("u"))), withRows(x, 21, 2, switchRow(20, "u")), numberOf(20))
	doneAs(t, "between others", s, x, ops(commitOp(), insertOp("note", ""), deleteOp("note", nameIs("")...), insertOp("note", "", nameSet("m"))), withRows(x, 22, 0, noteRow(21, "m")), impl.Result{}, numberOf(20), counted(1), numberOf(21))
	bounds := schema(impl.Table{Name: "t", Root: true, Columns: []impl.Column{called(intColumn(1, 1, 3, 9), "a"), called(intColumn(1, 2, -9, -3), "b"), called(textColumn(1, 1), "c"), called(boolColumn(1, 1), "d"), called(textColumn(0, 1), "e")}})
	empty, _ := impl.NewStore(bounds)
	doneAs(t, "defaults within bounds", bounds, empty, ops(insertOp("t", ""), insertOp("t", "", set("a", intAtom(9)), set("e", textAtom("x")))),
		store(3, rows(row(1, numbersOf(3), numbersOf(-3), word(""), atoms(boolAtom(0)), nil), row(2, numbersOf(9), numbersOf(-3), word(""), atoms(boolAtom(0)), word("x")))), numberOf(1), numberOf(2))
}

// fullNotes is a store of the plain schema with so many notes.
func fullNotes(count int) impl.Store {
	x := store(100, nil, nil, nil)
	for i := range count {
		x.Tables[0] = append(x.Tables[0], noteRow(i+1, "n"))
	}
	return x
}

func TestInsertsIntoFullTables(t *testing.T) {
	s := impl.PlainSchema()
	for count := 4; count <= impl.MaxRows; count++ {
		x := fullNotes(count)
		for inserts := range 9 {
			what := fmt.Sprintf("%d inserts into %d rows", inserts, count)
			list := slices.Repeat(ops(insertOp("note", "")), inserts)
			want := withNext(x, 100+inserts)
			var told []impl.Result
			for i := range min(inserts, impl.MaxRows-count) {
				want.Tables[0] = append(want.Tables[0], noteRow(100+i, ""))
				told = append(told, numberOf(100+i))
			}
			if count+inserts > impl.MaxRows {
				failsAs(t, what, s, x, list, append(told, coded(impl.ErrFull))...)
			} else {
				doneAs(t, what, s, x, list, want, told...)
			}
		}
	}
	full := fullNotes(impl.MaxRows)
	roomy := withRows(full, 101, 0)
	roomy.Tables[0] = append(roomy.Tables[0][1:], noteRow(100, "m"))
	doneAs(t, "behind a delete there is room", s, full, ops(deleteOp("note", idIs(1)...), insertOp("note", "", nameSet("m"))), roomy, counted(1), numberOf(100))
	failsAs(t, "ahead of a delete there is none", s, full, ops(insertOp("note", "", nameSet("m")), deleteOp("note", idIs(1)...)), coded(impl.ErrFull))
	doneAs(t, "beside a full table", s, full, ops(insertOp("switch", "")), withRows(full, 101, 2, switchRow(100, "")), numberOf(100))
}

// Ports that nobody holds take room until the transaction ends.
func TestFullTablesOfRowsThatGo(t *testing.T) {
	s, x := impl.PlainSchema(), store(40, nil, nil, nil)
	for i := range 10 {
		x.Tables[1] = append(x.Tables[1], portRow(i+1, fmt.Sprint("p", i)))
	}
	x.Tables[2] = rows(switchRow(20, "s", 1, 2, 3, 4, 5), switchRow(21, "t", 6, 7, 8, 9, 10))
	loose := ops(portOp("a"), portOp("b"), portOp("c"))
	failsAs(t, "one more than there may be", s, x, loose, numberOf(40), numberOf(41), coded(impl.ErrFull))
	doneAs(t, "as many as there may be", s, x, loose[:2], withNext(x, 42), numberOf(40), numberOf(41))
	failsAs(t, "a switch that goes leaves its ports until the end", s, x, append(ops(deleteOp("switch")), loose...), counted(2), numberOf(40), numberOf(41), coded(impl.ErrFull))
	doneAs(t, "ports that go leave room", s, x, append(ops(deleteOp("switch"), deleteOp("port")), loose...), store(43, nil, nil, nil), counted(2), counted(10), numberOf(40), numberOf(41), numberOf(42))
}

func TestSelectedRows(t *testing.T) {
	s, x := impl.PlainSchema(), smallStore()
	picks := func(columns []string, list ...impl.Row) impl.Result {
		return impl.Result{Columns: columns, Rows: list}
	}
	all := []string{"name", "count", "ports"}
	for what, c := range map[string]struct {
		op   impl.Op
		want impl.Result
	}{
		"all rows, all columns":   {selectOp("switch", nil), picks(all, x.Tables[2]...)},
		"all rows, an empty list": {impl.Op{Kind: impl.OpSelect, Table: "switch", Columns: []string{}, Where: []impl.Cond{}}, picks(all, x.Tables[2]...)},
		"no row, all columns":     {selectOp("switch", nameIs("x")), picks(all)},
		"no row, some columns":    {selectOp("switch", nameIs("x"), "ports", "_uuid"), picks([]string{"ports", "_uuid"})},
		"one row":                 {selectOp("switch", nameIs("t")), picks(all, x.Tables[2][1])},
		"one column":              {selectOp("switch", nil, "ports"), picks([]string{"ports"}, row(3, ids(2)), row(8, ids(2, 7)))},
		"the Id":                  {selectOp("switch", nil, "_uuid"), picks([]string{"_uuid"}, row(3, ids(3)), row(8, ids(8)))},
		"columns twice":           {selectOp("switch", nameIs("s"), "ports", "name", "ports", "_uuid", "_uuid", "name"), picks([]string{"ports", "name", "ports", "_uuid", "_uuid", "name"}, row(3, ids(2), word("s"), ids(2), ids(3), ids(3), word("s")))},
		"all columns backward":    {selectOp("switch", nameIs("s"), "ports", "count", "name"), picks([]string{"ports", "count", "name"}, row(3, ids(2), numbersOf(0), word("s")))},
		"by the Id":               {selectOp("note", idIs(9), "name"), picks([]string{"name"}, row(9, word("n")))},
		"by another table's Id":   {selectOp("note", idIs(2), "name"), picks([]string{"name"})},
		"by two conditions":       {selectOp("note", conds(cond("name", impl.CoEq, textAtom("n")), cond("about", impl.CoIncludes, idAtom(7))), "about"), picks([]string{"about"}, row(5, ids(2, 7)))},
		"cells of nothing":        {selectOp("port", nil, "tag"), picks([]string{"tag"}, row(2, nil), row(7, nil))},
	} {
		doneAs(t, what, s, x, ops(c.op), x, c.want)
		doneAs(t, what+", twice", s, x, ops(c.op, commitOp(), c.op), x, c.want, impl.Result{}, c.want)
	}
	doneAs(t, "what comes, changes and goes", s, x,
		ops(insertOp("note", "", nameSet("m")), selectOp("note", nil, "name"), updateOp("note", nil, nameSet("o")), selectOp("note", nil, "name"), deleteOp("note", idNot(9)...), selectOp("note", nil, "name", "_uuid"), portOp("p"), selectOp("port", idIs(21), "name")),
		func() impl.Store {
			y := withNext(x, 22)
			y.Tables[0] = rows(noteRow(9, "o"))
			return y
		}(),
		numberOf(20), picks([]string{"name"}, row(5, word("n")), row(9, word("n")), row(20, word("m"))), counted(3),
		picks([]string{"name"}, row(5, word("o")), row(9, word("o")), row(20, word("o"))), counted(2), picks([]string{"name", "_uuid"}, row(9, word("o"), ids(9))),
		numberOf(21), picks([]string{"name"}, row(21, word("port p"))))
	own := schema(impl.Table{Name: "t", Root: true, Columns: []impl.Column{called(textColumn(0, 1), "_uuid"), called(textColumn(0, 1), "b")}})
	y := store(9, rows(row(1, word("u"), word("v")), row(2, nil, nil)))
	doneAs(t, "a column that is called as the Id", own, y, ops(selectOp("t", conds(cond("_uuid", impl.CoEq, textAtom("u"))), "b", "_uuid"), selectOp("t", nil)), y,
		picks([]string{"b", "_uuid"}, row(1, word("v"), word("u"))), picks([]string{"_uuid", "b"}, y.Tables[0]...))
	doneAs(t, "all of a full table", s, fullNotes(12), ops(selectOp("note", nil)), fullNotes(12), picks([]string{"name", "about"}, fullNotes(12).Tables[0]...))
}

func TestUpdatedRows(t *testing.T) {
	s, x := impl.PlainSchema(), smallStore()
	counts := func(list ...int) impl.Store {
		y := copyStore(x)
		for i, n := range list {
			y.Tables[2][i].Cells[1] = numbersOf(n)
		}
		return y
	}
	count := func(n int) impl.Set { return set("count", intAtom(n)) }
	doneAs(t, "no row", s, x, ops(updateOp("switch", nameIs("x"), count(5))), x, counted(0))
	doneAs(t, "no row, what does not fit", s, x, ops(updateOp("switch", nameIs("x"), count(1001), set("name"))), x, counted(0))
	doneAs(t, "one row", s, x, ops(updateOp("switch", nameIs("t"), count(5))), counts(0, 5), counted(1))
	doneAs(t, "several rows", s, x, ops(updateOp("switch", nil, count(5))), counts(5, 5), counted(2))
	doneAs(t, "no set", s, x, ops(updateOp("switch", nil)), x, counted(2))
	doneAs(t, "what is there already", s, x, ops(updateOp("switch", nil, count(0))), x, counted(2))
	doneAs(t, "one behind the other", s, x, ops(updateOp("switch", nil, count(5)), updateOp("switch", nameIs("s"), count(-5)), updateOp("switch", conds(cond("count", impl.CoLt, intAtom(0))), count(7))), counts(7, 5), counted(2), counted(1), counted(1))
	doneAs(t, "what is chosen by what is set", s, x, ops(updateOp("switch", conds(cond("count", impl.CoEq, intAtom(0))), count(5)), updateOp("switch", conds(cond("count", impl.CoEq, intAtom(0))), count(9))), counts(5, 5), counted(2), counted(0))
	failsAs(t, "what does not fit", s, x, ops(updateOp("switch", nil, count(1001))), coded(impl.ErrRange))
	failsAs(t, "what does not fit, a later set", s, x, ops(updateOp("switch", nil, count(5), set("name"))), coded(impl.ErrMany))
	failsAs(t, "two that do not fit", s, x, ops(updateOp("switch", nil, count(1001), set("name"))), coded(impl.ErrRange))
	failsAs(t, "behind one that was done", s, x, ops(updateOp("switch", nil, count(5)), updateOp("switch", nil, count(1001))), counted(2), coded(impl.ErrRange))
}

// What a mutation makes of the first row has a code, or what it makes of a later one: nothing is done either way.
func TestMutatedRows(t *testing.T) {
	s := impl.PlainSchema()
	counts := func(list ...int) impl.Store {
		x := store(20, nil, nil, nil)
		for i, n := range list {
			x.Tables[2] = append(x.Tables[2], row(i+1, word(fmt.Sprint("s", i)), numbersOf(n), nil))
		}
		return x
	}
	add := func(n int) impl.Mut { return mut("count", impl.MuAdd, intAtom(n)) }
	x := counts(10, 20, 30)
	doneAs(t, "no row", s, x, ops(mutateOp("switch", nameIs("x"), add(1))), x, counted(0))
	doneAs(t, "no row, a division by 0", s, x, ops(mutateOp("switch", nameIs("x"), mut("count", impl.MuDiv, intAtom(0)))), x, counted(0))
	doneAs(t, "one row", s, x, ops(mutateOp("switch", nameIs("s1"), add(1))), counts(10, 21, 30), counted(1))
	doneAs(t, "several rows", s, x, ops(mutateOp("switch", idNot(2), add(970))), counts(980, 20, 1000), counted(2))
	doneAs(t, "no mutation", s, x, ops(mutateOp("switch", nil)), x, counted(3))
	doneAs(t, "several mutations", s, x, ops(mutateOp("switch", nil, add(1), mut("count", impl.MuMul, intAtom(3)), mut("count", impl.MuMod, intAtom(10)))), counts(3, 3, 3), counted(3))
	doneAs(t, "one behind the other", s, x, ops(mutateOp("switch", nil, add(5)), mutateOp("switch", conds(cond("count", impl.CoGt, intAtom(20))), add(-5)), mutateOp("switch", nil, mut("name", impl.MuInsert))), counts(15, 20, 30), counted(3), counted(2), counted(3))
	for what, list := range map[string][]int{"the first row": {900, 1, 2}, "the second row": {1, 900, 2}, "the last row": {1, 2, 900}, "all rows": {900, 900, 900}} {
		x := counts(list...)
		failsAs(t, what+" has a code", s, x, ops(mutateOp("switch", nil, add(101))), coded(impl.ErrRange))
		failsAs(t, what+" has a code, behind another one", s, x, ops(mutateOp("switch", nil, add(-1)), mutateOp("switch", nil, add(102)), commitOp()), counted(3), coded(impl.ErrRange))
		failsAs(t, what+" has a code in the last of some mutations", s, x, ops(mutateOp("switch", nil, add(1), add(-1), add(101))), coded(impl.ErrRange))
	}
	// of the first row too few, of the second one a number too great
	less := []impl.Mut{mut("count", impl.MuDelete, intAtom(10))}
	failsAs(t, "two rows with different codes", s, counts(10, 990), ops(mutateOp("switch", nil, append(less, add(11))...)), coded(impl.ErrMany))
	failsAs(t, "two rows with different codes, the other one first", s, counts(990, 10), ops(mutateOp("switch", nil, append(less, add(11))...)), coded(impl.ErrRange))
	failsAs(t, "a division by 0 of a later row", s, counts(10, 990), ops(mutateOp("switch", nil, mut("count", impl.MuDiv, intAtom(0)))), coded(impl.ErrRange))
}

func TestDeletedRows(t *testing.T) {
	s, x := impl.PlainSchema(), smallStore()
	doneAs(t, "no row", s, x, ops(deleteOp("note", nameIs("x")...)), x, counted(0))
	one := copyStore(x)
	one.Tables[0] = one.Tables[0][1:]
	doneAs(t, "one row", s, x, ops(deleteOp("note", idIs(5)...)), one, counted(1))
	one = copyStore(x)
	one.Tables[0] = one.Tables[0][:1]
	doneAs(t, "the other one", s, x, ops(deleteOp("note", idIs(9)...)), one, counted(1))
	all := store(20, nil, x.Tables[1], x.Tables[2])
	doneAs(t, "all rows", s, x, ops(deleteOp("note")), all, counted(2))
	doneAs(t, "all rows by their name", s, x, ops(deleteOp("note", nameIs("n")...)), all, counted(2))
	doneAs(t, "one behind the other", s, x, ops(deleteOp("note", idIs(9)...), deleteOp("note", idIs(9)...), deleteOp("note")), all, counted(1), counted(0), counted(1))
	doneAs(t, "what came in the same transaction", s, x, ops(insertOp("note", "", nameSet("m")), deleteOp("note", nameIs("m")...)), withNext(x, 21), numberOf(20), counted(1))
	some := fullNotes(12)
	some.Tables[0] = slices.DeleteFunc(some.Tables[0], func(r impl.Row) bool { return slices.Contains([]int{1, 2, 5, 7, 8, 12}, r.Id) })
	doneAs(t, "some of a full table", s, fullNotes(12), ops(deleteOp("note", idNot(3, 4, 6, 9, 10, 11)...)), some, counted(6))
}

// A wait asks whether there is a row, and whether all that there are have those cells.
func TestWaits(t *testing.T) {
	s := impl.PlainSchema()
	x := store(20, rows(noteRow(5, "n"), noteRow(6, "n")), nil, rows(row(1, word("a"), numbersOf(1), nil), row(2, word("b"), numbersOf(1), nil), row(3, word("c"), numbersOf(2), nil)))
	one := set("count", intAtom(1))
	for what, c := range map[string]struct {
		where []impl.Cond
		row   []impl.Set
		so    bool
	}{
		"a row with that cell":                     {nameIs("a"), sets(one), true},
		"a row with another cell":                  {nameIs("c"), sets(one), false},
		"no row":                                   {nameIs("x"), sets(one), false},
		"no row, no set":                           {nameIs("x"), nil, false},
		"a row, no set":                            {nameIs("c"), nil, true},
		"all rows, no set":                         {nil, nil, true},
		"all rows, the last has another cell":      {nil, sets(one), false},
		"rows that all have it":                    {idNot(3), sets(one), true},
		"rows of which the first has another cell": {idNot(1), sets(set("count", intAtom(2))), false},
		"by the cell itself":                       {conds(cond("count", impl.CoEq, intAtom(1))), sets(one), true},
		"two sets":                                 {nameIs("a"), sets(one, nameSet("a")), true},
		"two sets, the first is not so":            {nameIs("a"), sets(set("count", intAtom(2)), nameSet("a")), false},
		"two sets, the last is not so":             {nameIs("a"), sets(one, nameSet("b")), false},
		"a cell of nothing":                        {nil, sets(set("ports")), true},
		"a cell that should have one":              {nil, sets(set("ports", idAtom(1))), false},
		"a set of nothing":                         {nameIs("a"), sets(set("count")), false},
		"a set of more":                            {nameIs("a"), sets(set("count", intAtom(1), intAtom(2))), false},
		"a number that does not fit":               {nameIs("a"), sets(set("count", intAtom(1001))), false},
		"more than a column takes":                 {nameIs("a"), sets(set("name", textAtom("a"), textAtom("b"))), false},
	} {
		wait := func(until bool) impl.Op { return waitOp("switch", until, c.where, c.row...) }
		doneAs(t, what, s, x, ops(wait(c.so)), x, impl.Result{})
		doneAs(t, what+", twice", s, x, ops(wait(c.so), wait(c.so)), x, impl.Result{}, impl.Result{})
		failsAs(t, what+", not so", s, x, ops(wait(!c.so)), coded(impl.ErrWait))
		failsAs(t, what+", not so behind an insert", s, x, ops(insertOp("note", ""), wait(c.so), wait(!c.so), commitOp()), numberOf(20), impl.Result{}, coded(impl.ErrWait))
	}
	for _, until := range []bool{false, true} {
		empty := waitOp("port", until, nil)
		if until {
			failsAs(t, "a table without rows", s, x, ops(empty), coded(impl.ErrWait))
		} else {
			doneAs(t, "a table without rows", s, x, ops(empty), x, impl.Result{})
		}
	}
	doneAs(t, "for what the same transaction does", s, x,
		ops(waitOp("switch", false, nil, one), updateOp("switch", nil, one), waitOp("switch", true, nil, one), deleteOp("switch"), waitOp("switch", false, nil)),
		store(20, x.Tables[0], nil, nil), impl.Result{}, counted(3), impl.Result{}, counted(3), impl.Result{})
	doneAs(t, "for rows by their names", s, x,
		ops(portOp("p"), waitOp("switch", false, nil, naming("ports", "p")), updateOp("switch", nil, naming("ports", "p")), waitOp("switch", true, nil, naming("ports", "p", "p")), waitOp("switch", false, nil, naming("ports", "p", "q")), insertOp("note", "q"), waitOp("note", false, idIs(21), naming("about", "p")), updateOp("switch", nil, set("ports"))),
		withRows(x, 22, 0, noteRow(21, "")), numberOf(20), impl.Result{}, counted(3), impl.Result{}, impl.Result{}, numberOf(21), impl.Result{}, counted(3))
}

// Of two codes that are due the one of the earlier sentence is answered.
func TestWhichCodeOfATransactionIsDue(t *testing.T) {
	s, x := impl.PlainSchema(), smallStore()
	full := fullNotes(12)
	none, wrong, fits := naming("about", "nobody"), set("name"), nameSet("m")
	for what, c := range map[string]struct {
		x    impl.Store
		op   impl.Op
		code int
	}{
		"a column that is none, a name of none":          {x, insertOp("note", "", none, set("x")), impl.ErrColumn},
		"a column twice, a name of none":                 {x, insertOp("note", "", none, none), impl.ErrTwice},
		"another kind, a name of none":                   {x, insertOp("note", "", none, naming("name", "b")), impl.ErrType},
		"no right name, a name of none":                  {x, insertOp("note", "9", none), impl.ErrForm},
		"a name of none, a name that is taken":           {x, insertOp("note", "taken", none), impl.ErrRef},
		"a name of none, a full table":                   {full, insertOp("note", "", none), impl.ErrRef},
		"a name of none, what does not fit":              {x, insertOp("note", "", wrong, none), impl.ErrRef},
		"a name that is taken, a full table":             {full, insertOp("note", "taken", fits), impl.ErrTwice},
		"a name that is taken, what does not fit":        {x, insertOp("note", "taken", wrong), impl.ErrTwice},
		"a full table, what does not fit":                {full, insertOp("note", "", wrong), impl.ErrFull},
		"a name of none, taken, full, does not fit":      {full, insertOp("note", "taken", wrong, none), impl.ErrRef},
		"taken, full, does not fit":                      {full, insertOp("note", "taken", wrong), impl.ErrTwice},
		"a full table that is none":                      {full, insertOp("notes", "taken", wrong), impl.ErrTable},
		"an update of a name of none, does not fit":      {x, updateOp("note", nil, wrong, none), impl.ErrRef},
		"an update by another kind, a name of none":      {x, updateOp("note", conds(cond("name", impl.CoEq, intAtom(1))), none), impl.ErrType},
		"an update of two that do not fit":               {x, updateOp("note", nil, set("about", ids(1, 2, 3, 4, 5)...), wrong), impl.ErrMany},
		"a wait for a name of none, and it is not so":    {x, waitOp("note", true, nil, nameSet("x"), none), impl.ErrRef},
		"a wait for another kind, and it is not so":      {x, waitOp("note", true, nil, set("name", intAtom(1))), impl.ErrType},
		"a wait by another kind, and a name of none":     {x, waitOp("note", true, conds(cond("x", impl.CoEq)), none), impl.ErrColumn},
		"a mutation by another kind, a division by 0":    {x, mutateOp("switch", conds(cond("name", impl.CoEq, intAtom(1))), mut("count", impl.MuDiv, intAtom(0))), impl.ErrType},
		"a mutation of another kind, one that has codes": {x, mutateOp("switch", nil, mut("count", impl.MuDiv, intAtom(0)), mut("name", impl.MuAdd, intAtom(0))), impl.ErrType},
	} {
		list := ops(insertOp("switch", "taken", nameSet("u")), c.op, abortOp())
		failsAs(t, what, s, c.x, list, numberOf(c.x.Next), coded(c.code))
	}
}
