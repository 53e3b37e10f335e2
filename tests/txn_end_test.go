package tests

import (
	"fmt"
	"math"
	"slices"
	"strings"
	"testing"

	"loop.example/g00524/impl"
)

// prunedTo tells what Prune makes of a store, and that the store itself stays.
func prunedTo(t *testing.T, what string, s impl.Schema, x, want impl.Store) {
	t.Helper()
	before := copyStore(x)
	got, code := impl.Prune(s, x)
	if code != impl.OK || !alikeStores(got, want) {
		t.Errorf("%s: Prune is %s, %d, not %s", what, brief(got), code, brief(want))
	}
	if !alikeStores(x, before) {
		t.Errorf("%s: Prune changes what it was given: %s", what, brief(x))
	}
	nothingLoose(t, what, s, got)
	if twice, code := impl.Prune(s, got); code != impl.OK || !alikeStores(twice, got) {
		t.Errorf("%s: Prune once more is %s, %d", what, brief(twice), code)
	}
}

// held answers rows of the table h of heldSchema: of each its number, then those it holds.
func held(list ...[]int) []impl.Row {
	var made []impl.Row
	for _, n := range list {
		made = append(made, row(n[0], ids(n[1:]...), nil))
	}
	return made
}

// holds answers a row of the table a of heldSchema that holds some.
func holds(id int, list ...int) impl.Row { return row(id, ids(list...), nil, nil, nil) }

func TestRowsThatNobodyHoldsGo(t *testing.T) {
	s := heldSchema()
	for what, c := range map[string]struct{ before, after impl.Store }{
		"nothing":                       {store(9, nil, nil, nil), store(9, nil, nil, nil)},
		"one":                           {store(9, nil, nil, held([]int{1})), store(9, nil, nil, nil)},
		"a full table":                  {store(99, nil, nil, held([]int{1}, []int{2}, []int{3}, []int{4}, []int{5}, []int{6}, []int{7}, []int{8}, []int{9}, []int{10}, []int{11}, []int{12})), store(99, nil, nil, nil)},
		"one that is held":              {store(9, rows(holds(5, 1)), nil, held([]int{1})), store(9, rows(holds(5, 1)), nil, held([]int{1}))},
		"the first of two":              {store(9, rows(holds(5, 2)), nil, held([]int{1}, []int{2})), store(9, rows(holds(5, 2)), nil, held([]int{2}))},
		"the last of two":               {store(9, rows(holds(5, 1)), nil, held([]int{1}, []int{2})), store(9, rows(holds(5, 1)), nil, held([]int{1}))},
		"the one in the middle":         {store(9, rows(holds(5, 1, 3)), nil, held([]int{1}, []int{2}, []int{3})), store(9, rows(holds(5, 1, 3)), nil, held([]int{1}, []int{3}))},
		"held by itself":                {store(9, nil, nil, held([]int{1, 1})), store(9, nil, nil, held([]int{1, 1}))},
		"a ring of two":                 {store(9, nil, nil, held([]int{1, 2}, []int{2, 1})), store(9, nil, nil, held([]int{1, 2}, []int{2, 1}))},
		"a ring of four":                {store(9, nil, nil, held([]int{1, 3}, []int{2, 1}, []int{3, 4}, []int{4, 2})), store(9, nil, nil, held([]int{1, 3}, []int{2, 1}, []int{3, 4}, []int{4, 2}))},
		"a ring, and one that holds it": {store(9, nil, nil, held([]int{1, 2}, []int{2, 1}, []int{3, 1, 2})), store(9, nil, nil, held([]int{1, 2}, []int{2, 1}))},
		"a ring, and one that it holds": {store(9, nil, nil, held([]int{1, 2}, []int{2, 1, 3}, []int{3})), store(9, nil, nil, held([]int{1, 2}, []int{2, 1, 3}, []int{3}))},
		"held by one that goes":         {store(9, nil, nil, held([]int{1, 2}, []int{2})), store(9, nil, nil, nil)},
		"held by one behind that goes":  {store(9, nil, nil, held([]int{1}, []int{2, 1})), store(9, nil, nil, nil)},
		"a chain of six":                {store(9, nil, nil, held([]int{1, 2}, []int{2, 3}, []int{3, 4}, []int{4, 5}, []int{5, 6}, []int{6})), store(9, nil, nil, nil)},
		"a chain of six backward":       {store(9, nil, nil, held([]int{1}, []int{2, 1}, []int{3, 2}, []int{4, 3}, []int{5, 4}, []int{6, 5})), store(9, nil, nil, nil)},
		"a chain that is held":          {store(9, rows(holds(8, 3)), nil, held([]int{1}, []int{2, 1}, []int{3, 2}, []int{4, 3})), store(9, rows(holds(8, 3)), nil, held([]int{1}, []int{2, 1}, []int{3, 2}))},
		"held by one that goes and one": {store(9, rows(holds(5, 1)), nil, held([]int{1}, []int{2, 1})), store(9, rows(holds(5, 1)), nil, held([]int{1}))},
		"a column that is not Strong":   {store(9, rows(row(5, nil, nil, ids(1), nil)), nil, held([]int{1})), store(9, rows(row(5, nil, nil, nil, nil)), nil, nil)},
		"its own that is not Strong":    {store(9, nil, nil, rows(row(1, nil, ids(1)))), store(9, nil, nil, nil)},
		"a column for another table":    {store(9, rows(row(5, nil, nil, nil, ids(1))), nil, held([]int{1})), store(9, rows(row(5, nil, nil, nil, ids(1))), nil, nil)},
		"its like is held":              {store(9, rows(row(5, nil, nil, nil, ids(1))), rows(row(1, nil)), held([]int{1})), store(9, rows(row(5, nil, nil, nil, ids(1))), rows(row(1, nil)), nil)},
		"a column of another table":     {store(9, nil, rows(row(6, ids(1))), held([]int{1})), store(9, nil, rows(row(6, ids(1))), held([]int{1}))},
		"a Root that nobody holds":      {store(9, rows(holds(5)), rows(row(6, nil)), nil), store(9, rows(holds(5)), rows(row(6, nil)), nil)},
		"who is not there":              {store(9, rows(holds(5, 1, 2)), nil, held([]int{2})), store(9, rows(holds(5, 1, 2)), nil, held([]int{2}))},
	} {
		prunedTo(t, what, s, c.before, c.after)
		for _, next := range []int{100, 999999, 1000000} {
			prunedTo(t, what+", another Next", s, withNext(c.before, next), withNext(c.after, next))
		}
	}
}

// Rows of two tables hold each other and nobody else does: one goes when the other went, whichever table comes first.
func TestRowsOfSeveralTablesGo(t *testing.T) {
	hold := func(name, ref string) impl.Table {
		return impl.Table{Name: name, Columns: []impl.Column{refColumn(8, ref, true)}}
	}
	s := schema(hold("a", "b"), hold("b", "c"), hold("c", "a"))
	prunedTo(t, "a ring", s, store(9, rows(row(1, ids(2))), rows(row(2, ids(3))), rows(row(3, ids(1)))), store(9, rows(row(1, ids(2))), rows(row(2, ids(3))), rows(row(3, ids(1)))))
	prunedTo(t, "a chain", s, store(9, rows(row(1, ids(2))), rows(row(2, ids(3))), rows(row(3, nil))), store(9, nil, nil, nil))
	prunedTo(t, "a chain from the last table on", s, store(9, rows(row(1, nil)), rows(row(2, nil)), rows(row(3, ids(1)))), store(9, nil, nil, nil))
	prunedTo(t, "two rounds", s, store(20, rows(row(1, ids(2)), row(4, ids(5))), rows(row(2, ids(3)), row(5, nil)), rows(row(3, ids(4)))), store(20, nil, nil, nil))
	prunedTo(t, "a ring with a tail", s, store(20, rows(row(1, ids(2)), row(4, ids(5))), rows(row(2, ids(3)), row(5, nil)), rows(row(3, ids(1)), row(6, ids(4)))), store(20, rows(row(1, ids(2))), rows(row(2, ids(3))), rows(row(3, ids(1)))))
	back := schema(hold("a", "a"), hold("b", "a"), hold("c", "c"))
	prunedTo(t, "held by one of a later table that goes", back, store(9, rows(row(1, nil)), rows(row(2, ids(1))), rows(row(3, ids(3)))), store(9, nil, nil, rows(row(3, ids(3)))))
	prunedTo(t, "a ring of Ids of other tables", s, store(9, rows(row(1, ids(1))), rows(row(2, ids(2))), rows(row(3, ids(3)))), store(9, nil, nil, nil))
}

func TestAtomsWhoseRowsAreNotThereGo(t *testing.T) {
	s := impl.PlainSchema()
	ports, switches := rows(portRow(2, "p"), portRow(7, "q")), rows(switchRow(3, "s", 2, 7))
	for what, c := range map[string]struct{ about, left []int }{
		"nothing":                  {nil, nil},
		"both there":               {[]int{2, 7}, []int{2, 7}},
		"none there":               {[]int{1, 4, 19, 1000000}, nil},
		"the first one":            {[]int{1, 2, 7}, []int{2, 7}},
		"the one in the middle":    {[]int{2, 4, 7}, []int{2, 7}},
		"the last one":             {[]int{2, 7, 8}, []int{2, 7}},
		"all but one":              {[]int{1, 2, 3, 9}, []int{2}},
		"rows of other tables":     {[]int{2, 3, 5}, []int{2}},
		"the greatest number":      {[]int{7, 1000000}, []int{7}},
		"a number that is not yet": {[]int{7, 20}, []int{7}},
	} {
		for _, first := range []bool{true, false} {
			notes, want := rows(noteRow(5, "n", c.about...), noteRow(9, "m", 2)), rows(noteRow(5, "n", c.left...), noteRow(9, "m", 2))
			if !first {
				notes, want = rows(noteRow(5, "m", 2), noteRow(9, "n", c.about...)), rows(noteRow(5, "m", 2), noteRow(9, "n", c.left...))
			}
			prunedTo(t, what, s, store(20, notes, ports, switches), store(20, want, ports, switches))
		}
	}
	prunedTo(t, "a Strong column stays", s, store(20, nil, ports, rows(switchRow(3, "s", 1, 2, 7, 9))), store(20, nil, ports, rows(switchRow(3, "s", 1, 2, 7, 9))))
	prunedTo(t, "with a row that goes", s, store(20, rows(noteRow(5, "n", 2, 7)), ports, rows(switchRow(3, "s", 7))), store(20, rows(noteRow(5, "n", 7)), ports[1:], rows(switchRow(3, "s", 7))))
	prunedTo(t, "with all rows that go", s, store(20, rows(noteRow(5, "n", 2, 7), noteRow(6, "n", 7)), ports, nil), store(20, rows(noteRow(5, "n"), noteRow(6, "n")), nil, nil))
	h := heldSchema()
	prunedTo(t, "of rows that are held", h, store(20, rows(holds(5, 1, 2)), nil, rows(row(1, nil, ids(1, 2, 3)), row(2, nil, ids(3)), row(3, nil, ids(1)))), store(20, rows(holds(5, 1, 2)), nil, rows(row(1, nil, ids(1, 2)), row(2, nil, nil))))
	prunedTo(t, "with the last of a chain", h, store(20, rows(row(5, nil, nil, ids(1, 2, 3, 4), nil)), nil, held([]int{1, 2}, []int{2, 3}, []int{3}, []int{4, 4})), store(20, rows(row(5, nil, nil, ids(4), nil)), nil, held([]int{4, 4})))
	self := schema(impl.Table{Name: "t", Root: true, Columns: []impl.Column{refColumn(8, "t", false)}})
	prunedTo(t, "eight, none there", self, store(20, rows(row(1, ids(2, 3, 4, 5, 6, 7, 8, 9)))), store(20, rows(row(1, nil))))
	prunedTo(t, "eight, all there", self, store(20, rows(row(1, ids(1)), row(2, ids(1, 2)))), store(20, rows(row(1, ids(1)), row(2, ids(1, 2)))))
}

// commitIs tells what CommitCode answers of a store that fits.
func commitIs(t *testing.T, what string, s impl.Schema, x impl.Store, want int) {
	t.Helper()
	if first, code := impl.CommitCode(s, x); first != want || code != impl.OK {
		t.Errorf("%s: CommitCode is %d, %d, not %d, %d", what, first, code, want, impl.OK)
	}
}

func TestCodesOfCommits(t *testing.T) {
	s, x := impl.PlainSchema(), smallStore()
	alike := withCell(x, 2, 1, 0, word("s"))
	commitIs(t, "a right store", s, x, impl.OK)
	commitIs(t, "no rows", s, store(1, nil, nil, nil), impl.OK)
	commitIs(t, "a row that nobody holds", s, withRow(x, 1, 2, portRow(11, "r")), impl.OK)
	commitIs(t, "an Id in two tables", s, withRow(x, 0, 0, noteRow(2, "n")), impl.OK)
	commitIs(t, "a Strong column with no row", s, withCell(x, 2, 0, 2, ids(2, 6)), impl.ErrRef)
	commitIs(t, "a Strong column with another table's row", s, withCell(x, 2, 1, 2, ids(2, 8)), impl.ErrRef)
	commitIs(t, "a column that is not Strong with no row", s, withCell(x, 0, 0, 1, ids(6)), impl.ErrRef)
	commitIs(t, "a column that is not Strong with another table's row", s, withCell(x, 0, 1, 1, ids(2, 7, 9)), impl.ErrRef)
	commitIs(t, "rows that are alike", s, alike, impl.ErrUnique)
	commitIs(t, "ports that are alike", s, withCell(x, 1, 1, 0, word("p")), impl.ErrUnique)
	commitIs(t, "rows that are alike, where they may be", s, withCell(x, 0, 1, 1, ids(2, 7)), impl.OK)
	commitIs(t, "alike rows ahead of a Strong column with no row", s, withCell(withCell(x, 1, 1, 0, word("p")), 2, 0, 2, ids(6)), impl.ErrRef)
	commitIs(t, "a column with no row ahead of alike rows", s, withCell(alike, 0, 0, 1, ids(6)), impl.ErrRef)
	two := uniqueSchema(0, 2)
	commitIs(t, "alike in one of two columns", two, store(9, nil, rows(row(1, word("a"), word("b"), word("c")), row(2, word("a"), word("b"), word("d")))), impl.OK)
	commitIs(t, "alike in two of two columns", two, store(9, nil, rows(row(1, word("a"), word("b"), word("c")), row(2, word("a"), word("x"), word("c")))), impl.ErrUnique)
	commitIs(t, "alike in nothing", two, store(9, nil, rows(row(1, nil, nil, nil), row(2, nil, word("a"), nil))), impl.ErrUnique)
}

// A store need not be right here, but it must fit, and so must the schema be right.
func TestStoresThatDoNotFitAreNeitherPrunedNorCommitted(t *testing.T) {
	s := impl.PlainSchema()
	for i, x := range someStores() {
		fits := fitsSays(s, x)
		got, code := impl.Prune(s, x)
		first, commitCode := impl.CommitCode(s, x)
		if fits != (code == impl.OK) || fits != (commitCode == impl.OK) {
			t.Errorf("store %d: Prune has %d, CommitCode %d, it fits: %v", i, code, commitCode, fits)
		}
		if !fits && (code != impl.ErrBad || commitCode != impl.ErrBad || first != impl.OK || !alikeStores(got, impl.Store{})) {
			t.Errorf("store %d: Prune is %s, %d, CommitCode %d, %d", i, brief(got), code, first, commitCode)
		}
	}
	for what, wrong := range map[string]impl.Schema{"nothing": {}, "another schema": heldSchema(), "a table less": schema(s.Tables[0], s.Tables[1]), "no order": schema(s.Tables[1], s.Tables[0], s.Tables[2])} {
		for _, x := range []impl.Store{smallStore(), {}, store(9), store(20, smallStore().Tables[1], smallStore().Tables[0], smallStore().Tables[2])} {
			got, code := impl.Prune(wrong, x)
			first, commitCode := impl.CommitCode(wrong, x)
			if code != impl.ErrBad || commitCode != impl.ErrBad || first != impl.OK || !alikeStores(got, impl.Store{}) {
				t.Errorf("%s: Prune is %s, %d, CommitCode %d, %d", what, brief(got), code, first, commitCode)
			}
		}
	}
	for what, x := range wrongTables() {
		wrong := schema(x)
		if got, code := impl.Prune(wrong, store(9, nil)); code != impl.ErrBad || !alikeStores(got, impl.Store{}) {
			t.Errorf("%s: Prune is %s, %d", what, brief(got), code)
		}
		if first, code := impl.CommitCode(wrong, store(9, nil)); first != impl.OK || code != impl.ErrBad {
			t.Errorf("%s: CommitCode is %d, %d", what, first, code)
		}
		if y, told, code := impl.Transact(wrong, store(9, nil), nil, nil); code != impl.ErrBad || len(told) != 0 || !alikeStores(y, impl.Store{}) {
			t.Errorf("%s: Transact is %s, %s, %d", what, brief(y), brief(told), code)
		}
	}
}

// What nobody holds goes when the transaction ends: not ahead of its other operations.
func TestTransactionsThatLeaveRowsToNobody(t *testing.T) {
	s, x := impl.PlainSchema(), smallStore()
	seen := impl.Result{Columns: []string{"name"}, Rows: rows(row(2, word("p")), row(7, word("q")))}
	doneAs(t, "who held it goes", s, x, ops(deleteOp("switch", nameIs("t")...), selectOp("port", nil, "name")),
		store(20, rows(noteRow(5, "n", 2), noteRow(9, "n")), rows(portRow(2, "p")), rows(switchRow(3, "s", 2))), counted(1), seen)
	doneAs(t, "all who held it go", s, x, ops(deleteOp("switch")), store(20, rows(noteRow(5, "n"), noteRow(9, "n")), nil, nil), counted(2))
	doneAs(t, "who held it holds it no more", s, x, ops(mutateOp("switch", nil, mut("ports", impl.MuDelete, idAtom(2)))),
		store(20, rows(noteRow(5, "n", 7), noteRow(9, "n")), rows(portRow(7, "q")), rows(switchRow(3, "s"), switchRow(8, "t", 7))), counted(2))
	doneAs(t, "one of two holds it no more", s, x, ops(updateOp("switch", nameIs("s"), set("ports"))), withCell(x, 2, 0, 2, nil), counted(1))
	doneAs(t, "a row that nobody holds comes", s, x, ops(portOp("a"), portOp("b")), withNext(x, 22), numberOf(20), numberOf(21))
	doneAs(t, "a row comes and is held", s, x, ops(portOp("a"), mutateOp("switch", nameIs("s"), mut("ports", impl.MuInsert, idAtom(20)))),
		func() impl.Store {
			y := withRows(x, 21, 1, portRow(20, "port a"))
			y.Tables[2][0].Cells[2] = ids(2, 20)
			return y
		}(), numberOf(20), counted(1))
	doneAs(t, "a row comes and is held by one that goes", s, x, ops(portOp("a"), switchOp("u", "a"), deleteOp("switch", nameIs("new u")...)), withNext(x, 22), numberOf(20), numberOf(21), counted(1))
	doneAs(t, "it is held by one that goes and by one that comes", s, x, ops(deleteOp("switch"), insertOp("switch", "", nameSet("u"), set("ports", ids(2, 7)...))),
		store(21, x.Tables[0], x.Tables[1], rows(switchRow(20, "u", 2, 7))), counted(2), numberOf(20))
	doneAs(t, "a note about a port that comes and goes", s, x, ops(portOp("a"), insertOp("note", "", naming("about", "a")), waitOp("note", true, idIs(21), set("about", idAtom(20)))), withRows(x, 22, 0, noteRow(21, "")), numberOf(20), numberOf(21), impl.Result{})
	doneAs(t, "a port that is deleted though a note is about it", s, x, ops(updateOp("switch", nil, set("ports", idAtom(7))), deleteOp("port", nameIs("p")...)),
		store(20, rows(noteRow(5, "n", 7), noteRow(9, "n")), rows(portRow(7, "q")), rows(switchRow(3, "s", 7), switchRow(8, "t", 7))), counted(2), counted(1))
	h := heldSchema()
	empty, _ := impl.NewStore(h)
	doneAs(t, "a ring comes", h, empty, ops(insertOp("h", "x", naming("own", "y")), insertOp("h", "y", naming("own", "x"))), store(3, nil, nil, held([]int{1, 2}, []int{2, 1})), numberOf(1), numberOf(2))
	ring := store(9, nil, nil, held([]int{1, 2}, []int{2, 3}, []int{3, 1}))
	doneAs(t, "a ring is cut", h, ring, ops(updateOp("h", idIs(2), set("own"))), store(9, nil, nil, nil), counted(1))
	doneAs(t, "a ring loses one", h, store(9, nil, nil, held([]int{1, 2}, []int{2, 1, 3}, []int{3})), ops(updateOp("h", idIs(2), set("own", idAtom(1)))), store(9, nil, nil, held([]int{1, 2}, []int{2, 1})), counted(1))
	doneAs(t, "a ring goes with one that is deleted", h, ring, ops(deleteOp("h", idIs(2)...)), store(9, nil, nil, nil), counted(1))
	failsAs(t, "a ring that is held loses one that is deleted", h, store(9, rows(holds(5, 1)), nil, ring.Tables[2]), ops(deleteOp("h", idIs(2)...)), counted(1), coded(impl.ErrRef))
	doneAs(t, "who held a ring goes", h, store(9, rows(holds(5, 1)), nil, held([]int{1, 2}, []int{2, 1})), ops(deleteOp("a")), store(9, nil, nil, held([]int{1, 2}, []int{2, 1})), counted(1))
	doneAs(t, "who held a chain goes", h, store(9, rows(row(5, ids(1), nil, ids(3), nil)), nil, held([]int{1, 2}, []int{2, 3}, []int{3, 4}, []int{4})), ops(updateOp("a", nil, set("x"))), store(9, rows(holds(5)), nil, nil), counted(1))
}

// What hinders a transaction at its end is told by one result more than there are operations.
func TestCodesAtTheEnd(t *testing.T) {
	s, x := impl.PlainSchema(), smallStore()
	none := func(name string) impl.Op {
		return insertOp("switch", "", nameSet(name), set("ports", idAtom(2), idAtom(19)))
	}
	failsAs(t, "a Strong column with no row", s, x, ops(none("u")), numberOf(20), coded(impl.ErrRef))
	failsAs(t, "a Strong column with another table's row", s, x, ops(updateOp("switch", nameIs("s"), set("ports", idAtom(3)))), counted(1), coded(impl.ErrRef))
	failsAs(t, "a Strong column with a row called in another table", s, x, ops(insertOp("note", "a"), switchOp("", "a")), numberOf(20), numberOf(21), coded(impl.ErrRef))
	failsAs(t, "a Strong column with itself", s, x, ops(switchOp("a", "a")), numberOf(20), coded(impl.ErrRef))
	failsAs(t, "a Strong column whose row is deleted", s, x, ops(deleteOp("port", nameIs("q")...)), counted(1), coded(impl.ErrRef))
	failsAs(t, "a Strong column with a row that comes later", s, x, ops(updateOp("switch", nameIs("s"), set("ports", idAtom(20)))), counted(1), coded(impl.ErrRef))
	failsAs(t, "alike rows", s, x, ops(insertOp("switch", "", nameSet("s"))), numberOf(20), coded(impl.ErrUnique))
	failsAs(t, "alike rows by an update", s, x, ops(updateOp("switch", nil, nameSet("u"))), counted(2), coded(impl.ErrUnique))
	failsAs(t, "alike rows that both come", s, x, ops(insertOp("switch", ""), insertOp("switch", "")), numberOf(20), numberOf(21), coded(impl.ErrUnique))
	failsAs(t, "alike ports that are held", s, x, ops(insertOp("port", "a", nameSet("p")), switchOp("", "a")), numberOf(20), numberOf(21), coded(impl.ErrUnique))
	failsAs(t, "both", s, x, ops(none("s")), numberOf(20), coded(impl.ErrRef))
	failsAs(t, "both, in two operations", s, x, ops(insertOp("switch", "", nameSet("s")), deleteOp("port", nameIs("q")...)), numberOf(20), counted(1), coded(impl.ErrRef))
	failsAs(t, "both, in another order", s, x, ops(deleteOp("port", nameIs("q")...), insertOp("switch", "", nameSet("s"))), counted(1), numberOf(20), coded(impl.ErrRef))
	eight := append(slices.Repeat(ops(insertOp("note", "")), 7), insertOp("switch", "", nameSet("t")))
	failsAs(t, "behind eight operations", s, x, eight, numberOf(20), numberOf(21), numberOf(22), numberOf(23), numberOf(24), numberOf(25), numberOf(26), numberOf(27), coded(impl.ErrUnique))
	failsAs(t, "an operation with a code ahead of it", s, x, ops(none("s"), abortOp()), numberOf(20), coded(impl.ErrAbort))
	picked := impl.Result{Columns: []string{"name"}, Rows: rows(row(8, word("t")))}
	failsAs(t, "what was told stays", s, x, ops(deleteOp("switch", nameIs("s")...), selectOp("switch", nil, "name"), commitOp(), mutateOp("switch", nil, mut("count", impl.MuAdd, intAtom(1))), insertOp("switch", "", nameSet("t"))),
		counted(1), picked, impl.Result{}, counted(1), numberOf(20), coded(impl.ErrUnique))
}

// What is not right for the time of some operations may be right at the end.
func TestWhatIsRightAtTheEnd(t *testing.T) {
	s, x := impl.PlainSchema(), smallStore()
	named := func(first, second string) impl.Store {
		return withCell(withCell(x, 2, 0, 0, word(first)), 2, 1, 0, word(second))
	}
	doneAs(t, "alike for the time of one operation", s, x, ops(updateOp("switch", nil, nameSet("u")), updateOp("switch", idIs(8), nameSet("v"))), named("u", "v"), counted(2), counted(1))
	doneAs(t, "changed for one another", s, x, ops(updateOp("switch", idIs(3), nameSet("t")), updateOp("switch", idIs(8), nameSet("s"))), named("t", "s"), counted(1), counted(1))
	doneAs(t, "alike until one goes", s, x, ops(insertOp("switch", "", nameSet("s"), set("ports", ids(2)...)), deleteOp("switch", idIs(3)...)),
		store(21, x.Tables[0], x.Tables[1], rows(switchRow(8, "t", 2, 7), switchRow(20, "s", 2))), numberOf(20), counted(1))
	doneAs(t, "a port that is alike, but nobody holds it", s, x, ops(insertOp("port", "", nameSet("p"))), withNext(x, 21), numberOf(20))
	doneAs(t, "a port that is alike, and the other one goes", s, x, ops(insertOp("port", "a", nameSet("q")), updateOp("switch", nameIs("t"), naming("ports", "a"))),
		store(21, rows(noteRow(5, "n", 2), noteRow(9, "n")), rows(portRow(2, "p"), portRow(20, "q")), rows(switchRow(3, "s", 2), switchRow(8, "t", 20))), numberOf(20), counted(1))
	doneAs(t, "no row for the time of one operation", s, x, ops(updateOp("switch", nameIs("s"), set("ports", idAtom(19))), updateOp("switch", nameIs("s"), set("ports", idAtom(2)))), x, counted(1), counted(1))
	doneAs(t, "an Id that is not yet", s, x, ops(updateOp("switch", nameIs("s"), set("ports", ids(2, 20)...)), portOp("a")),
		func() impl.Store {
			y := withRows(x, 21, 1, portRow(20, "port a"))
			y.Tables[2][0].Cells[2] = ids(2, 20)
			return y
		}(), counted(1), numberOf(20))
	doneAs(t, "who holds one that is none goes with it", s, x, ops(insertOp("switch", "", nameSet("s"), set("ports", idAtom(19))), deleteOp("switch", idIs(20)...)), withNext(x, 21), numberOf(20), counted(1))
	h := heldSchema()
	empty, _ := impl.NewStore(h)
	doneAs(t, "who nobody holds holds one that is none", h, empty, ops(insertOp("h", "", set("own", idAtom(7)))), store(2, nil, nil, nil), numberOf(1))
	self := schema(impl.Table{Name: "t", Root: true, Unique: []int{0}, Columns: []impl.Column{refColumn(8, "t", false)}})
	y := store(9, rows(row(1, ids(1)), row(2, ids(1, 3)), row(3, ids(3))))
	failsAs(t, "alike when atoms have gone", self, y, ops(deleteOp("t", idIs(3)...)), counted(1), coded(impl.ErrUnique))
	failsAs(t, "alike when other atoms have gone", self, y, ops(deleteOp("t", idIs(1)...)), counted(1), coded(impl.ErrUnique))
}

// Next is above the numbers of all inserts, also of rows that are gone; with a code it is as it was.
func TestNextBehindTransactions(t *testing.T) {
	s, x := impl.PlainSchema(), smallStore()
	for bits := range 256 {
		var list []impl.Op
		inserts := 0
		for i := range 8 {
			if bits>>i&1 == 1 {
				list, inserts = append(list, insertOp("port", "")), inserts+1
			} else {
				list = append(list, commitOp())
			}
		}
		y, told := txnHolds(t, "inserts that go", s, x, list, nil)
		if !alikeStores(y, withNext(x, 20+inserts)) || len(told) != 8 {
			t.Errorf("inserts %08b: %s, %s", bits, brief(y), brief(told))
		}
	}
	doneAs(t, "an insert that is deleted", s, x, ops(insertOp("note", "", nameSet("m")), deleteOp("note", nameIs("m")...)), withNext(x, 21), numberOf(20), counted(1))
	failsAs(t, "an insert ahead of a code", s, x, ops(insertOp("note", ""), abortOp()), numberOf(20), coded(impl.ErrAbort))
	failsAs(t, "an insert ahead of a code at the end", s, x, ops(insertOp("switch", "", nameSet("s"))), numberOf(20), coded(impl.ErrUnique))
	y := x
	for i := range 6 {
		before := y
		y, _ = txnHolds(t, "a code between", s, y, ops(insertOp("note", ""), insertOp("note", ""), abortOp()), nil)
		if y, _ = txnHolds(t, "no code", s, y, ops(insertOp("note", "")), nil); y.Next != before.Next+1 {
			t.Errorf("Next is %d behind transaction %d", y.Next, i)
		}
	}
}

func TestTheEndOfNumbers(t *testing.T) {
	s := impl.PlainSchema()
	for count := range 9 {
		for _, next := range []int{999990, 999991, 999992, 999993, 999994, 999995, 999996, 999997, 999998, 999999, 1000000} {
			x := withNext(smallStore(), next)
			for _, o := range []impl.Op{commitOp(), insertOp("note", ""), abortOp(), insertOp("x", "")} {
				list := slices.Repeat(ops(o), count)
				what := fmt.Sprintf("%d operations of kind %d from %d on", count, o.Kind, next)
				if next+count > 1000000 {
					y, told, code := impl.Transact(s, x, list, nil)
					if code != impl.ErrFull || len(told) != 0 || !alikeStores(y, x) {
						t.Errorf("%s: Transact is %s, %s, %d", what, brief(y), brief(told), code)
					}
					continue
				}
				y, told := txnHolds(t, what, s, x, list, nil)
				if o.Table == "note" && (y.Next != next+count || len(told) != count || count > 0 && told[count-1].Id != next+count-1) {
					t.Errorf("%s: Transact is %s, %s", what, brief(y), brief(told))
				}
			}
		}
	}
	held := withNext(smallStore(), 999999)
	held.Tables[1] = append(held.Tables[1], portRow(999998, "r"))
	held.Tables[2] = append(held.Tables[2], switchRow(999997, "u", 999998))
	doneAs(t, "the last number", s, held, ops(insertOp("note", "", set("about", idAtom(999998)))), withRows(held, 1000000, 0, noteRow(999999, "", 999998)), numberOf(999999))
}

// refusedAs tells that Transact answers a code, and that nothing stands beside it.
func refusedAs(t *testing.T, what string, s impl.Schema, x impl.Store, list []impl.Op, owned []string, want int) {
	t.Helper()
	y, told, code := impl.Transact(s, x, list, owned)
	if code != want || len(told) != 0 || !alikeStores(y, impl.Store{}) {
		t.Errorf("%s: Transact is %s, %s, %d, not with %d", what, brief(y), brief(told), code, want)
	}
}

// A store must be right, not fit alone.
func TestTransactionsOnWrongStores(t *testing.T) {
	s := impl.PlainSchema()
	wrong := 0
	for i, x := range someStores() {
		if fitsSays(s, x) && rightSays(s, x) {
			txnHolds(t, fmt.Sprint("store ", i), s, x, ops(insertOp("note", "")), nil)
			continue
		}
		wrong++
		for _, list := range [][]impl.Op{nil, {insertOp("note", "")}, {abortOp()}, {deleteOp("note"), deleteOp("port"), deleteOp("switch")}, {{}}, slices.Repeat(ops(commitOp()), 9), make([]impl.Op, impl.MaxList)} {
			refusedAs(t, fmt.Sprint("store ", i), s, x, list, nil, impl.ErrBad)
		}
	}
	if wrong < 12 {
		t.Errorf("only %d stores are wrong", wrong)
	}
	for what, other := range map[string]impl.Schema{"nothing": {}, "another schema": heldSchema(), "a table less": schema(s.Tables[0], s.Tables[1]), "a table more": schema(append(slices.Clone(s.Tables), table("t", columns(1)...))...), "no order": schema(s.Tables[1], s.Tables[0], s.Tables[2])} {
		refusedAs(t, what, other, smallStore(), ops(commitOp()), nil, impl.ErrBad)
		refusedAs(t, what, other, impl.Store{}, nil, nil, impl.ErrBad)
	}
	tight := impl.PlainSchema()
	tight.Tables[2].Columns[1].High = -1
	refusedAs(t, "a schema with other bounds", tight, smallStore(), ops(commitOp()), nil, impl.ErrBad)
}

func TestTransactionsOfWrongOperations(t *testing.T) {
	s, x := impl.PlainSchema(), smallStore()
	for what, o := range wrongOps() {
		if impl.OpOK(o) {
			t.Errorf("%s: OpOK is true", what)
		}
		refusedAs(t, what, s, x, ops(o), nil, impl.ErrBad)
		refusedAs(t, what+", behind another one", s, x, ops(insertOp("note", ""), o), nil, impl.ErrBad)
		refusedAs(t, what+", behind one with a code", s, x, ops(abortOp(), insertOp("x", ""), o), nil, impl.ErrBad)
		refusedAs(t, what+", ahead of another one", s, x, ops(o, abortOp()), nil, impl.ErrBad)
		refusedAs(t, what+", the last of eight", s, x, append(slices.Repeat(ops(commitOp()), 7), o), nil, impl.ErrBad)
		refusedAs(t, what+", one of nine", s, x, append(slices.Repeat(ops(commitOp()), 8), o), nil, impl.ErrMany)
		refusedAs(t, what+", at the end of numbers", s, withNext(x, 1000000), ops(o), nil, impl.ErrBad)
	}
}

// Of two codes of Transact the one that the chapter names first is answered, and ErrLong ahead of all.
func TestWhichCodeOfTransactIsDue(t *testing.T) {
	s := impl.PlainSchema()
	right, wrong, late := smallStore(), withNext(smallStore(), 0), withNext(smallStore(), 1000000)
	few, many, long := slices.Repeat(ops(commitOp()), 8), slices.Repeat(ops(commitOp()), 9), slices.Repeat(ops(commitOp()), impl.MaxList+1)
	owned, longOwned := slices.Repeat([]string{"lock"}, impl.MaxList), slices.Repeat([]string{"lock"}, impl.MaxList+1)
	for what, c := range map[string]struct {
		x     impl.Store
		list  []impl.Op
		owned []string
		code  int
	}{
		"a long list":                             {right, long, nil, impl.ErrLong},
		"a long list, wrong ones":                 {right, make([]impl.Op, impl.MaxList+1), nil, impl.ErrLong},
		"a long list, a wrong store":              {wrong, long, nil, impl.ErrLong},
		"a long list, no more numbers":            {late, long, nil, impl.ErrLong},
		"a long list of owned":                    {right, few, longOwned, impl.ErrLong},
		"a long list of owned, no operation":      {right, nil, longOwned, impl.ErrLong},
		"a long list of owned, a wrong store":     {wrong, few, longOwned, impl.ErrLong},
		"a long list of owned, too many":          {right, many, longOwned, impl.ErrLong},
		"a long list of owned, a wrong one":       {right, ops(impl.Op{}), longOwned, impl.ErrLong},
		"a long list of owned, no more numbers":   {late, few, longOwned, impl.ErrLong},
		"a wrong store":                           {wrong, few, owned, impl.ErrBad},
		"a wrong store, too many":                 {wrong, many, nil, impl.ErrBad},
		"a store that is not right, too many":     {withCell(right, 2, 0, 2, ids(19)), many, nil, impl.ErrBad},
		"too many":                                {right, many, owned, impl.ErrMany},
		"too many, as many as a list may have":    {right, slices.Repeat(ops(commitOp()), impl.MaxList), nil, impl.ErrMany},
		"too many, wrong ones":                    {right, make([]impl.Op, 9), nil, impl.ErrMany},
		"too many, no more numbers":               {late, many, nil, impl.ErrMany},
		"a wrong one, no more numbers":            {late, ops(commitOp(), impl.Op{Kind: 11}), nil, impl.ErrBad},
		"a wrong store at the end of its numbers": {withNext(smallStore(), 1000001), few, nil, impl.ErrBad},
		"the greatest Next":                       {withNext(smallStore(), math.MaxInt), few, nil, impl.ErrBad},
		"the least Next":                          {withNext(smallStore(), math.MinInt), few, nil, impl.ErrBad},
	} {
		refusedAs(t, what, s, c.x, c.list, c.owned, c.code)
	}
	y, told, code := impl.Transact(s, late, ops(abortOp()), owned)
	if code != impl.ErrFull || len(told) != 0 || !alikeStores(y, late) {
		t.Errorf("no more numbers: Transact is %s, %s, %d", brief(y), brief(told), code)
	}
	txnHolds(t, "as many owned as a list may have", s, right, few, owned)
}

// failedIs tells what Failed answers.
func failedIs(t *testing.T, what string, list []impl.Result, want bool, wantCode int) {
	t.Helper()
	if got, code := impl.Failed(list); got != want || code != wantCode {
		t.Errorf("%s: Failed(%s) is %v, %d, not %v, %d", what, brief(list), got, code, want, wantCode)
	}
}

func TestWhatHasFailed(t *testing.T) {
	picked := impl.Result{Columns: []string{"name", "_uuid"}, Rows: rows(row(3, word("a"), ids(3)))}
	right := results(impl.Result{}, counted(5), numberOf(7), picked)
	failedIs(t, "nothing", nil, false, impl.OK)
	failedIs(t, "an empty list", results(), false, impl.OK)
	failedIs(t, "no code", right, false, impl.OK)
	for code := 1; code <= 19; code++ {
		failedIs(t, "a code alone", results(coded(code)), true, impl.OK)
		failedIs(t, "a code in the last", append(slices.Clone(right), coded(code)), true, impl.OK)
		failedIs(t, "a code in the first", append(results(coded(code)), right...), false, impl.OK)
		failedIs(t, "a code in an earlier one", results(impl.Result{}, coded(code), impl.Result{}), false, impl.OK)
		failedIs(t, "codes in all", results(coded(code), coded(1), coded(20-code)), true, impl.OK)
	}
	wrong := map[string]impl.Result{
		"no code of the table": coded(20), "a code below 0": coded(-1), "the greatest code": coded(math.MaxInt), "the least code": coded(math.MinInt),
		"a Count beside a code": {Code: 1, Count: 1}, "an Id beside a code": {Code: 1, Id: 1}, "Columns beside a code": {Code: 1, Columns: []string{"a"}}, "Rows beside a code": {Code: 1, Rows: rows(row(1))},
		"a Count below 0": counted(-1), "a great Count": counted(1001), "an Id below 0": numberOf(-1), "a great Id": numberOf(1000001),
		"a wrong column": {Columns: []string{"9"}}, "eight columns": {Columns: slices.Repeat([]string{"a"}, 8)}, "a row without cells": {Columns: []string{"a"}, Rows: rows(row(1))}, "thirteen rows": {Rows: make([]impl.Row, 13)}, "no set": {Columns: []string{"a"}, Rows: rows(row(1, numbersOf(2, 1)))},
		"a long column": {Columns: []string{strings.Repeat("a", 41)}},
	}
	for what, r := range wrong {
		failedIs(t, what, results(r), false, impl.ErrBad)
		failedIs(t, what+", last", append(slices.Clone(right), r), false, impl.ErrBad)
		failedIs(t, what+", first", append(results(r), right...), false, impl.ErrBad)
		failedIs(t, what+", ahead of a code", results(r, coded(1)), false, impl.ErrBad)
		failedIs(t, what+", behind a code", results(coded(1), r), false, impl.ErrBad)
	}
	for count, code := range map[int]int{8: impl.OK, 9: impl.OK, 10: impl.OK, 1000: impl.OK, impl.MaxList: impl.OK, impl.MaxList + 1: impl.ErrLong, impl.MaxList * 2: impl.ErrLong} {
		what := fmt.Sprintf("%d results", count)
		failedIs(t, what, make([]impl.Result, count), false, code)
		last := make([]impl.Result, count)
		last[count-1] = coded(3)
		failedIs(t, what+", a code in the last", last, code == impl.OK, code)
		last[0] = coded(20)
		if code == impl.OK {
			code = impl.ErrBad
		}
		failedIs(t, what+", one wrong", last, false, code)
	}
}
