package tests

import (
	"fmt"
	"math"
	"slices"
	"strings"
	"testing"

	"loop.example/g00524/impl"
)

// The changes, a call a kind.
func came(table int, r impl.Row) impl.Change { return impl.Change{Table: table, Id: r.Id, New: r} }

func went(table int, r impl.Row) impl.Change { return impl.Change{Table: table, Id: r.Id, Old: r} }

func stayed(table int, old, new impl.Row) impl.Change {
	return impl.Change{Table: table, Id: new.Id, Old: old, New: new}
}

func changes(list ...impl.Change) []impl.Change { return list }

// backward answers the changes that take these back, from the last one on.
func backward(list []impl.Change) []impl.Change {
	var made []impl.Change
	for i := len(list) - 1; i >= 0; i-- {
		made = append(made, impl.Change{Table: list[i].Table, Id: list[i].Id, Old: list[i].New, New: list[i].Old})
	}
	return made
}

// diffIs tells what DiffStores answers, and of the two stores the other way round.
func diffIs(t *testing.T, what string, a, b impl.Store, want []impl.Change, wantCode int) {
	t.Helper()
	if list, code := impl.DiffStores(a, b); !alike(list, want) || code != wantCode {
		t.Errorf("%s: DiffStores is %s, %d, not %s, %d", what, brief(list), code, brief(want), wantCode)
	}
	other := slices.Clone(want)
	for i := range other {
		other[i].Old, other[i].New = want[i].New, want[i].Old
	}
	if list, code := impl.DiffStores(b, a); !alike(list, other) || code != wantCode {
		t.Errorf("%s: DiffStores the other way round is %s, %d, not %s, %d", what, brief(list), code, brief(other), wantCode)
	}
}

// appliedIs tells what ApplyChanges answers, and what UndoChanges does of the changes that take these back.
func appliedIs(t *testing.T, what string, x impl.Store, list []impl.Change, want impl.Store, wantCode int) impl.Store {
	t.Helper()
	made, code := impl.ApplyChanges(x, list)
	if !alikeStores(made, want) || code != wantCode {
		t.Errorf("%s: ApplyChanges is %s, %d, not %s, %d", what, brief(made), code, brief(want), wantCode)
	}
	undone, code := impl.UndoChanges(x, backward(list))
	if !alikeStores(undone, want) || code != wantCode {
		t.Errorf("%s: UndoChanges is %s, %d, not %s, %d", what, brief(undone), code, brief(want), wantCode)
	}
	return made
}

func kindIs(t *testing.T, c impl.Change, want, wantCode int) {
	t.Helper()
	if kind, code := impl.ChangeKind(c); kind != want || code != wantCode {
		t.Errorf("ChangeKind(%s) is %d, %d, not %d, %d", brief(c), kind, code, want, wantCode)
	}
}

func TestChangesOfASmallStore(t *testing.T) {
	x := smallStore()
	y := store(30,
		rows(noteRow(5, "n", 7), noteRow(9, "n"), noteRow(21, "new", 22)),
		rows(portRow(7, "q"), portRow(22, "r")),
		rows(switchRow(8, "t", 7, 22)))
	diffIs(t, "a small store", x, y, changes(
		stayed(0, noteRow(5, "n", 2, 7), noteRow(5, "n", 7)),
		came(0, noteRow(21, "new", 22)),
		went(1, portRow(2, "p")),
		came(1, portRow(22, "r")),
		went(2, switchRow(3, "s", 2)),
		stayed(2, switchRow(8, "t", 2, 7), switchRow(8, "t", 7, 22)),
	), impl.OK)
	list, _ := impl.DiffStores(x, y)
	appliedIs(t, "a small store", x, list, withNext(y, 23), impl.OK)
	back, code := impl.UndoChanges(y, list)
	if code != impl.OK || !alikeStores(back, withNext(x, 30)) {
		t.Errorf("a small store: UndoChanges is %s, %d", brief(back), code)
	}
	for i, kind := range []int{3, 1, 2, 1, 2, 3} {
		kindIs(t, list[i], kind, impl.OK)
	}
}

func TestStoresOfWhichNothingIsAnother(t *testing.T) {
	for _, x := range []impl.Store{{}, {Next: 7}, {Tables: [][]impl.Row{}}, store(0, nil), store(1, rows(), nil), smallStore(), numbered(12), numbered(13), numbered(impl.MaxList + 1), store(-1, rows(row(-3), row(0), row(1, nil)))} {
		diffIs(t, "a store and itself", x, x, nil, impl.OK)
		diffIs(t, "a store and its copy", x, copyStore(x), nil, impl.OK)
		for _, next := range []int{math.MinInt, 0, 1, 1000000, math.MaxInt} {
			diffIs(t, "another Next", x, withNext(x, next), nil, impl.OK)
			appliedIs(t, "no change", withNext(x, next), nil, withNext(x, next), impl.OK)
			appliedIs(t, "no change", withNext(x, next), changes(), withNext(x, next), impl.OK)
		}
	}
	diffIs(t, "nil and empty", store(3, nil, rows(row(1), row(2, nil, word("a")))), store(4, rows(), rows(impl.Row{Id: 1, Cells: [][]impl.Atom{}}, row(2, []impl.Atom{}, word("a")))), nil, impl.OK)
}

// cellsOfRows are unlike each other: in an atom, in a cell, in how many cells or atoms there are.
func cellsOfRows() [][][]impl.Atom {
	return [][][]impl.Atom{
		nil, {nil}, {nil, nil}, {word("a")}, {word("b")}, {word("a"), nil}, {nil, word("a")}, {word("a"), word("b")}, {word("b"), word("a")}, {word("")}, {ids(1)}, {ids(1, 2)}, {ids(2, 1)}, {ids(1, 2, 3)},
		{atoms(intAtom(1))}, {atoms(boolAtom(1))}, {atoms(impl.Atom{})}, {atoms(impl.Atom{Kind: 9, N: math.MinInt, T: "x"})}, {atoms(impl.Atom{Kind: impl.AtInt, N: 1, T: "x"})}, {ints(0, 20)}, {ints(0, impl.MaxList+1)}, {word(strings.Repeat("x", impl.MaxText+1))}, make([][]impl.Atom, 20), make([][]impl.Atom, impl.MaxList+1),
	}
}

func TestRowsThatAreOthers(t *testing.T) {
	for i, a := range cellsOfRows() {
		there := store(5, nil, rows(row(2, a...)), rows(row(2)))
		none := store(5, nil, nil, rows(row(2)))
		diffIs(t, "a row that comes", none, there, changes(came(1, row(2, a...))), impl.OK)
		appliedIs(t, "a row that comes", none, changes(came(1, row(2, a...))), there, impl.OK)
		appliedIs(t, "a row that goes", there, changes(went(1, row(2, a...))), none, impl.OK)
		for k, b := range cellsOfRows() {
			what := fmt.Sprintf("cells %s and %s", brief(a), brief(b))
			other := store(5, nil, rows(row(2, b...)), rows(row(2)))
			c := stayed(1, row(2, a...), row(2, b...))
			kindIs(t, c, 3, impl.OK)
			appliedIs(t, what, there, changes(c), other, impl.OK)
			if i == k {
				diffIs(t, what, there, other, nil, impl.OK)
				continue
			}
			diffIs(t, what, there, other, changes(c), impl.OK)
			appliedIs(t, what+", Old is another one", other, changes(c), other, impl.ErrRef)
			appliedIs(t, what+", who goes is another one", other, changes(went(1, row(2, a...))), other, impl.ErrRef)
			appliedIs(t, what+", who comes is there", other, changes(came(1, row(2, a...))), other, impl.ErrRef)
		}
	}
}

func TestChangesAreInOrder(t *testing.T) {
	var a, b impl.Store
	var want []impl.Change
	for table := range 5 {
		a.Tables, b.Tables = append(a.Tables, nil), append(b.Tables, nil)
		for id := 1; id <= 12; id++ {
			old, new := row(id, ids(table)), row(id, ids(table), nil)
			switch (id + table) % 4 {
			case 0:
				a.Tables[table], b.Tables[table] = append(a.Tables[table], old), append(b.Tables[table], old)
			case 1:
				a.Tables[table] = append(a.Tables[table], old)
				want = append(want, went(table, old))
			case 2:
				b.Tables[table] = append(b.Tables[table], new)
				want = append(want, came(table, new))
			case 3:
				a.Tables[table], b.Tables[table] = append(a.Tables[table], old), append(b.Tables[table], new)
				want = append(want, stayed(table, old, new))
			}
		}
	}
	diffIs(t, "five tables", a, b, want, impl.OK)
	appliedIs(t, "five tables", withNext(a, 50), want, withNext(b, 50), impl.OK)
	diffIs(t, "the Ids of one table are in another", store(1, rows(row(1), row(3)), nil), store(1, nil, rows(row(1), row(3))), changes(went(0, row(1)), went(0, row(3)), came(1, row(1)), came(1, row(3))), impl.OK)
}

// Rows may have any Ids; those below 1 have no right changes, but they are told.
func TestChangesOfAnyIds(t *testing.T) {
	all := []int{math.MinInt, -1000000, -2, -1, 0, 1, 2, 1000000, 1000001, math.MaxInt - 1, math.MaxInt}
	none, full := store(3, nil), store(3, nil)
	var comes []impl.Change
	for _, id := range all {
		r := row(id, ids(id))
		full.Tables[0] = append(full.Tables[0], r)
		comes = append(comes, came(0, r))
		diffIs(t, "one row", none, store(3, rows(r)), changes(came(0, r)), impl.OK)
		other := row(id, nil)
		diffIs(t, "another row", store(3, rows(other)), store(3, rows(r)), changes(stayed(0, other, r)), impl.OK)
		if id < 1 {
			kindIs(t, came(0, r), 0, impl.ErrBad)
			kindIs(t, went(0, r), 0, impl.ErrBad)
			kindIs(t, stayed(0, other, r), 0, impl.ErrBad)
			appliedIs(t, "an Id below 1", none, changes(came(0, r)), none, impl.ErrBad)
			appliedIs(t, "an Id below 1 that is there", full, changes(went(0, r)), full, impl.ErrBad)
			appliedIs(t, "an Id below 1 that is another one", store(3, rows(other)), changes(stayed(0, other, r)), store(3, rows(other)), impl.ErrBad)
		}
	}
	diffIs(t, "all rows", none, full, comes, impl.OK)
	wide, place := numbered(12), 12
	for i := range place {
		wide.Tables[0][i].Id -= 60
	}
	diffIs(t, "Ids below 1 too", wide, store(9, wide.Tables[0][6:]), func() (list []impl.Change) {
		for _, r := range wide.Tables[0][:6] {
			list = append(list, went(0, r))
		}
		return list
	}(), impl.OK)
}

// A row that is not there is zero: one that is, and is zero itself, is no other one.
func TestZeroRowsAreAsNone(t *testing.T) {
	with, without := store(1, rows(row(-1, nil), impl.Row{}, row(1))), store(1, rows(row(-1, nil), row(1)))
	diffIs(t, "a zero row", with, without, nil, impl.OK)
	diffIs(t, "a zero row with a cell", store(1, rows(row(0, nil))), store(1, nil), changes(went(0, row(0, nil))), impl.OK)
	diffIs(t, "a zero row and one with a cell", store(1, rows(row(0, nil))), store(1, rows(impl.Row{})), changes(stayed(0, row(0, nil), impl.Row{})), impl.OK)
}

func TestIdsOfDiffStoresMustRise(t *testing.T) {
	for _, falling := range fallingIds() {
		var list []impl.Row
		for _, id := range falling {
			list = append(list, kindsRow(id))
		}
		for place := range 3 {
			right := store(9, rows(row(1)), nil, rows(row(100), row(200)))
			wrong := copyStore(right)
			wrong.Tables[place] = list
			diffIs(t, fmt.Sprint(falling), right, wrong, nil, impl.ErrBad)
			diffIs(t, fmt.Sprint(falling), wrong, wrong, nil, impl.ErrBad)
			diffIs(t, fmt.Sprint(falling)+", and other tables", store(9), wrong, nil, impl.ErrBad)
			for table := -1; table <= 3; table++ {
				for _, c := range changes(came(table, row(7)), went(table, row(1)), went(table, list[0]), impl.Change{Table: table}) {
					appliedIs(t, fmt.Sprint(falling), wrong, changes(c), impl.Store{}, impl.ErrBad)
				}
			}
			appliedIs(t, fmt.Sprint(falling)+", no change", wrong, nil, impl.Store{}, impl.ErrBad)
		}
	}
}

func TestStoresOfAnotherNumberOfTables(t *testing.T) {
	x := smallStore()
	for what, y := range map[string]impl.Store{
		"none": {}, "none, with Next": store(20), "one": store(20, x.Tables[0]), "two": store(20, x.Tables[:2]...), "an empty one more": store(20, append(copyStore(x).Tables, nil)...), "an empty one ahead": store(20, append([][]impl.Row{nil}, x.Tables...)...), "many": store(20, make([][]impl.Row, impl.MaxList+1)...),
	} {
		diffIs(t, what, x, y, nil, impl.ErrBad)
	}
	diffIs(t, "none and an empty one", impl.Store{}, store(0, nil), nil, impl.ErrBad)
	diffIs(t, "an empty one and two", store(0, nil), store(0, rows(), rows()), nil, impl.ErrBad)
	many := make([][]impl.Row, impl.MaxList+2)
	other := slices.Clone(many)
	other[impl.MaxList+1] = rows(row(1))
	diffIs(t, "as many", store(1, many...), store(1, other...), changes(came(impl.MaxList+1, row(1))), impl.OK)
	appliedIs(t, "as many", store(1, many...), changes(came(impl.MaxList+1, row(1))), store(2, other...), impl.OK)
}

// All Ids of a change, of Old and of New beside each other, with cells and without.
func TestKindsOfChanges(t *testing.T) {
	numbers := []int{math.MinInt, -2, -1, 0, 1, 2, 3, 1000000, 1000001, math.MaxInt}
	cells := [][][]impl.Atom{nil, {}, {nil}, {word("a"), ids(1, 2)}, {atoms(impl.Atom{Kind: 7}), ints(0, 20)}}
	seen := map[int]int{}
	for _, id := range numbers {
		for _, old := range numbers {
			for _, new := range numbers {
				want, wantCode := 0, impl.ErrBad
				switch {
				case id < 1:
				case old == 0 && new == id:
					want, wantCode = 1, impl.OK
				case old == id && new == 0:
					want, wantCode = 2, impl.OK
				case old == id && new == id:
					want, wantCode = 3, impl.OK
				}
				seen[want]++
				for i, a := range cells {
					b := cells[(i*2+id%2+2)%len(cells)]
					for _, table := range []int{math.MinInt, -1, 0, 1, 1000, math.MaxInt} {
						kindIs(t, impl.Change{Table: table, Id: id, Old: row(old, a...), New: row(new, b...)}, want, wantCode)
					}
				}
			}
		}
	}
	if seen[1] != 6 || seen[2] != 6 || seen[3] != 6 {
		t.Errorf("kinds %v", seen)
	}
	same := row(4, ids(4))
	kindIs(t, stayed(0, same, same), 3, impl.OK)
}

// noChanges are changes that are none, of row 2, which is there, and of row 4, which is not.
func noChanges() map[string]impl.Change {
	there, not := portRow(2, "p"), portRow(4, "r")
	return map[string]impl.Change{
		"nothing":                    {},
		"neither Old nor New":        {Table: 1, Id: 4},
		"neither, of a row there":    {Table: 1, Id: 2},
		"Id 0, a row comes":          {Table: 1, New: not},
		"Id 0, a row goes":           {Table: 1, Old: there},
		"Id 0, both":                 {Table: 1, Old: there, New: there},
		"Id below 0":                 {Table: 1, Id: -4, New: row(-4)},
		"the least Id":               {Table: 1, Id: math.MinInt, New: row(math.MinInt)},
		"New of another Id":          {Table: 1, Id: 4, New: portRow(5, "r")},
		"Old of another Id":          {Table: 1, Id: 4, Old: there},
		"Old of another Id, New not": {Table: 1, Id: 2, Old: not, New: there},
		"New of another Id, Old not": {Table: 1, Id: 2, Old: there, New: not},
		"both of another Id":         {Table: 1, Id: 4, Old: there, New: there},
		"Old below 0":                {Table: 1, Id: 4, Old: row(-1), New: not},
		"New below 0":                {Table: 1, Id: 2, Old: there, New: row(-1)},
	}
}

func TestChangesThatAreNone(t *testing.T) {
	x := smallStore()
	ahead := changes(went(1, portRow(7, "q")), came(0, noteRow(30, "m")))
	half, _ := impl.ApplyChanges(x, ahead)
	for what, c := range noChanges() {
		kindIs(t, c, 0, impl.ErrBad)
		appliedIs(t, what, x, changes(c), x, impl.ErrBad)
		appliedIs(t, what+", behind others", x, append(slices.Clone(ahead), c), half, impl.ErrBad)
		appliedIs(t, what+", ahead of others", x, append(changes(c), ahead...), x, impl.ErrBad)
		for _, table := range []int{-1, 3} {
			c.Table = table
			appliedIs(t, what+", of no table", x, changes(c), x, impl.ErrBad)
		}
	}
}

func TestTablesOfChanges(t *testing.T) {
	x := smallStore()
	for _, table := range []int{math.MinInt, -1, 3, 4, math.MaxInt} {
		for what, c := range map[string]impl.Change{"comes": came(table, noteRow(30, "m")), "goes": went(table, noteRow(5, "n", 2, 7)), "stays": stayed(table, noteRow(9, "n"), noteRow(9, "m")), "is not there": went(table, row(77))} {
			appliedIs(t, fmt.Sprint("table ", table, ", a row that ", what), x, changes(c), x, impl.ErrBad)
			appliedIs(t, fmt.Sprint("no table at all, a row that ", what), impl.Store{Next: 7}, changes(c), impl.Store{Next: 7}, impl.ErrBad)
		}
	}
	appliedIs(t, "no table at all", store(4), changes(came(0, row(1))), store(4), impl.ErrBad)
	for table := range 3 {
		appliedIs(t, "each table", x, changes(came(table, row(30))), withRows(x, 31, table, row(30)), impl.OK)
	}
}

func TestOldIsNotWhatIsThere(t *testing.T) {
	x := smallStore()
	for what, c := range map[string]impl.Change{
		"a row that comes is there":                       came(1, portRow(2, "p")),
		"another row that comes is there":                 came(1, portRow(7, "new")),
		"a row that goes is not there":                    went(1, portRow(4, "p")),
		"a row that goes is in another table":             went(1, noteRow(5, "n", 2, 7)),
		"a row that goes is another one":                  went(1, portRow(2, "q")),
		"a row that is not there is another one":          stayed(1, portRow(4, "p"), portRow(4, "q")),
		"a row that is not there stays":                   stayed(1, portRow(4, "p"), portRow(4, "p")),
		"a row that was another one":                      stayed(1, portRow(2, "q"), portRow(2, "p")),
		"a row of one cell less":                          stayed(1, row(2, word("p"), nil), portRow(2, "p")),
		"a row of one cell more":                          stayed(1, row(2, word("p"), nil, atoms(boolAtom(0)), nil), portRow(2, "p")),
		"a row without cells goes":                        went(1, row(2)),
		"a row that comes had cells":                      {Table: 1, Id: 4, Old: row(0, nil), New: portRow(4, "r")},
		"a row that comes had cells with atoms":           {Table: 1, Id: 4, Old: row(0, word("p")), New: portRow(4, "r")},
		"a row that comes had cells, and is there":        {Table: 1, Id: 2, Old: row(0, word("p"), nil, atoms(boolAtom(0))), New: portRow(2, "r")},
		"a row that comes at the end of all and is there": came(2, switchRow(8, "t", 2, 7)),
	} {
		appliedIs(t, what, x, changes(c), x, impl.ErrRef)
		ahead := changes(came(0, noteRow(25, "m")), went(2, switchRow(3, "s", 2)))
		half, _ := impl.ApplyChanges(x, ahead)
		appliedIs(t, what+", behind others", x, append(slices.Clone(ahead), c), half, impl.ErrRef)
	}
	zero := store(5, rows(impl.Row{}, row(0+3, nil)))
	appliedIs(t, "a zero row beside it", zero, changes(came(0, row(1))), store(5, rows(impl.Row{}, row(1), row(3, nil))), impl.OK)
}

// What went may have cells in New, whose Id is 0: it goes; back it does not come, since then they would have been there.
func TestRowsThatWentWithCells(t *testing.T) {
	x := smallStore()
	c := impl.Change{Table: 1, Id: 7, Old: portRow(7, "q"), New: row(0, word("left"))}
	kindIs(t, c, 2, impl.OK)
	less, _ := impl.DropRow(x, 1, 7)
	if made, code := impl.ApplyChanges(x, changes(c)); code != impl.OK || !alikeStores(made, less) {
		t.Errorf("ApplyChanges is %s, %d", brief(made), code)
	}
	if made, code := impl.UndoChanges(less, changes(c)); code != impl.ErrRef || !alikeStores(made, less) {
		t.Errorf("UndoChanges is %s, %d", brief(made), code)
	}
}
