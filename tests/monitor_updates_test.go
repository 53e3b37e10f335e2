package tests

import (
	"fmt"
	"math"
	"slices"
	"strings"
	"testing"

	"loop.example/g00524/impl"
)

// The updates, a call a kind.
func insert(r impl.Row) impl.Update { return impl.Update{Id: r.Id, New: r} }

func remove(r impl.Row) impl.Update { return impl.Update{Id: r.Id, Old: r} }

func modify(old, new impl.Row) impl.Update { return impl.Update{Id: new.Id, Old: old, New: new} }

func updates(list ...impl.Update) []impl.Update { return list }

func updatesAre(t *testing.T, what string, s impl.Schema, m impl.Monitor, list []impl.Change, want []impl.Update, wantCode int) {
	t.Helper()
	if got, code := impl.MonitorUpdates(s, m, list); !alike(got, want) || code != wantCode {
		t.Errorf("%s: MonitorUpdates is %s, %d, not %s, %d", what, brief(got), code, brief(want), wantCode)
	}
}

func updatedIs(t *testing.T, what string, view []impl.Row, list []impl.Update, want []impl.Row, wantCode int) {
	t.Helper()
	if got, code := impl.ApplyUpdates(view, list); !alike(got, want) || code != wantCode {
		t.Errorf("%s: ApplyUpdates is %s, %d, not %s, %d", what, brief(got), code, brief(want), wantCode)
	}
}

// countRow is a switch with that count.
func countRow(id int, name string, count int, ports ...int) impl.Row {
	return row(id, word(name), atoms(intAtom(count)), ids(ports...))
}

// one is a row with one number.
func one(id, n int) impl.Row { return row(id, atoms(intAtom(n))) }

func TestUpdatesOfChanges(t *testing.T) {
	s := impl.PlainSchema()
	m := monitor("switch", columnsOf("count"), cond("count", impl.CoGe, intAtom(0)))
	for _, c := range []struct {
		what string
		list []impl.Change
		want []impl.Update
	}{
		{"no changes", nil, nil},
		{"it comes and is of Where", changes(came(2, countRow(4, "s", 5))), updates(insert(one(4, 5)))},
		{"it comes and is not", changes(came(2, countRow(4, "s", -5))), nil},
		{"it goes and was of Where", changes(went(2, countRow(4, "s", 5))), updates(remove(one(4, 5)))},
		{"it goes and was not", changes(went(2, countRow(4, "s", -5))), nil},
		{"it is another one", changes(stayed(2, countRow(4, "s", 5), countRow(4, "s", 6))), updates(modify(one(4, 5), one(4, 6)))},
		{"it is chosen no more", changes(stayed(2, countRow(4, "s", 0), countRow(4, "s", -1))), updates(remove(one(4, 0)))},
		{"it is chosen now", changes(stayed(2, countRow(4, "s", -1), countRow(4, "s", 0))), updates(insert(one(4, 0)))},
		{"it was not chosen, and is not", changes(stayed(2, countRow(4, "s", -1), countRow(4, "s", -2))), nil},
		{"what is another one is not told", changes(stayed(2, countRow(4, "s", 5, 2), countRow(4, "t", 5, 2, 7))), nil},
		{"it is as it was", changes(stayed(2, countRow(4, "s", 5), countRow(4, "s", 5))), nil},
		{"other tables", changes(came(0, noteRow(5, "n")), went(1, portRow(7, "p")), stayed(1, portRow(8, "q"), portRow(8, "r"))), nil},
		{"other tables between", changes(came(0, noteRow(5, "n")), came(2, countRow(6, "s", 1)), went(1, portRow(7, "p")), went(2, countRow(4, "t", 2)), came(0, noteRow(9, "n"))), updates(insert(one(6, 1)), remove(one(4, 2)))},
		{"the same row again and again", changes(came(2, countRow(4, "s", 1)), stayed(2, countRow(4, "s", 1), countRow(4, "s", -1)), stayed(2, countRow(4, "s", -1), countRow(4, "s", 2)), went(2, countRow(4, "s", 2)), went(2, countRow(4, "s", 2))),
			updates(insert(one(4, 1)), remove(one(4, 1)), insert(one(4, 2)), remove(one(4, 2)), remove(one(4, 2)))},
		{"the same Id in two tables", changes(came(1, portRow(4, "p")), came(2, countRow(4, "s", 1))), updates(insert(one(4, 1)))},
		{"the greatest Id", changes(came(2, countRow(1000000, "s", 1))), updates(insert(one(1000000, 1)))},
	} {
		updatesAre(t, c.what, s, m, c.list, c.want, impl.OK)
	}
}

// asking answers a monitor that asks for kinds of changes by their numbers.
func asking(m impl.Monitor, kinds string) impl.Monitor {
	m.Insert, m.Delete, m.Modify = strings.Contains(kinds, "1"), strings.Contains(kinds, "2"), strings.Contains(kinds, "3")
	return m
}

// What is asked for goes by what the monitor sees, not by what came and went.
func TestUpdatesThatAreAskedFor(t *testing.T) {
	s := impl.PlainSchema()
	list := changes(
		came(2, countRow(1, "s", 1)), went(2, countRow(2, "s", 2)), stayed(2, countRow(3, "s", 3), countRow(3, "s", 4)),
		stayed(2, countRow(4, "s", -1), countRow(4, "s", 5)), stayed(2, countRow(5, "s", 6), countRow(5, "s", -1)),
		stayed(2, countRow(6, "s", 1), countRow(6, "t", 1)), came(2, countRow(7, "s", -1)), went(2, countRow(8, "s", -1)), stayed(2, countRow(9, "s", -1), countRow(9, "s", -2)))
	told := map[rune][]impl.Update{'1': updates(insert(one(1, 1)), insert(one(4, 5))), '2': updates(remove(one(2, 2)), remove(one(5, 6))), '3': updates(modify(one(3, 3), one(3, 4)))}
	for _, kinds := range []string{"", "1", "2", "3", "12", "13", "23", "123"} {
		var want []impl.Update
		for _, kind := range kinds {
			want = append(want, told[kind]...)
		}
		slices.SortFunc(want, func(a, b impl.Update) int { return a.Id - b.Id })
		for _, initial := range []bool{false, true} {
			m := asking(monitor("switch", columnsOf("count"), cond("count", impl.CoGe, intAtom(0))), kinds)
			m.Initial = initial
			updatesAre(t, "kinds "+kinds, s, m, list, want, impl.OK)
		}
	}
}

func TestUpdatesByColumns(t *testing.T) {
	s := impl.PlainSchema()
	old, new := row(4, word("p"), nil, atoms(boolAtom(0))), row(4, word("p"), atoms(intAtom(7)), atoms(boolAtom(1)))
	for _, c := range []struct {
		columns []string
		where   []impl.Cond
		want    []impl.Update
	}{
		{columnsOf("name", "tag", "up"), nil, updates(modify(old, new))},
		{columnsOf("tag"), nil, updates(modify(row(4, nil), one(4, 7)))},
		{columnsOf("name"), nil, nil},
		{nil, nil, nil},
		{columnsOf("up", "name", "up"), nil, updates(modify(row(4, atoms(boolAtom(0)), word("p"), atoms(boolAtom(0))), row(4, atoms(boolAtom(1)), word("p"), atoms(boolAtom(1)))))},
		{columnsOf("name"), conds(cond("up", impl.CoEq, boolAtom(1))), updates(insert(row(4, word("p"))))},
		{nil, conds(cond("up", impl.CoEq, boolAtom(1))), updates(insert(row(4)))},
		{nil, conds(cond("up", impl.CoEq, boolAtom(0))), updates(remove(row(4)))},
		{columnsOf("tag"), idIs(4), updates(modify(row(4, nil), one(4, 7)))},
		{columnsOf("tag"), idNot(4), nil},
		{columnsOf("tag"), conds(cond("tag", impl.CoExcludes, intAtom(7))), updates(remove(row(4, nil)))},
		{columnsOf("tag"), conds(cond("tag", impl.CoLt, intAtom(7))), nil},
		{columnsOf("tag"), conds(cond("tag", impl.CoLe, intAtom(7))), updates(insert(one(4, 7)))},
	} {
		m := monitor("port", c.columns, c.where...)
		what := fmt.Sprint(c.columns, c.where)
		updatesAre(t, what, s, m, changes(stayed(1, old, new)), c.want, impl.OK)
		var back []impl.Update
		for _, u := range c.want {
			back = append(back, impl.Update{Id: u.Id, Old: u.New, New: u.Old})
		}
		updatesAre(t, what+" the other way round", s, m, changes(stayed(1, new, old)), back, impl.OK)
	}
	updatesAre(t, "a row that comes, no columns", s, monitor("port", nil), changes(came(1, old)), updates(insert(row(4))), impl.OK)
	updatesAre(t, "a row that goes, no columns", s, monitor("port", nil), changes(went(1, old)), updates(remove(row(4))), impl.OK)
}

// wrongChanges are changes that are none, of no table, or whose rows do not fit the plain schema's tables.
func wrongChanges() map[string]impl.Change {
	wrong := noChanges()
	for _, table := range []int{math.MinInt, -1, 3, 4, math.MaxInt} {
		wrong[fmt.Sprint("comes, table ", table)] = came(table, noteRow(4, "n"))
		wrong[fmt.Sprint("goes, table ", table)] = went(table, portRow(4, "n"))
		wrong[fmt.Sprint("stays, table ", table)] = stayed(table, switchRow(4, "n"), switchRow(4, "m"))
	}
	bad := map[string]impl.Row{
		"no cells": row(4), "a cell less": row(4, word("p"), nil), "a cell more": row(4, word("p"), nil, atoms(boolAtom(0)), nil), "another table's": switchRow(4, "s"), "a note": noteRow(4, "n"),
		"too few atoms": row(4, nil, nil, atoms(boolAtom(0))), "too many": row(4, word("p"), ints(0, 2), atoms(boolAtom(0))), "out of bounds": row(4, word("p"), atoms(intAtom(100)), atoms(boolAtom(0))),
		"another kind": row(4, word("p"), word("q"), atoms(boolAtom(0))), "no atom": row(4, atoms(impl.Atom{Kind: impl.AtText, T: "\n"}), nil, atoms(boolAtom(0))), "no set": row(4, word("p"), nil, atoms(boolAtom(1), boolAtom(0))),
		"an Id too great": portRow(1000001, "p"), "the greatest Id": portRow(math.MaxInt, "p"),
	}
	for what, r := range bad {
		fine := row(r.Id, portRow(4, "p").Cells...)
		wrong["comes, "+what] = came(1, r)
		wrong["goes, "+what] = went(1, r)
		wrong["Old, "+what] = stayed(1, r, fine)
		wrong["New, "+what] = stayed(1, fine, r)
		wrong["both, "+what] = stayed(1, r, r)
	}
	// Id 0 with cells is neither a row that is there nor one that is not
	wrong["Old without an Id has cells"] = impl.Change{Table: 1, Id: 4, Old: portRow(0, "p"), New: portRow(4, "p")}
	wrong["New without an Id has cells"] = impl.Change{Table: 1, Id: 4, Old: portRow(4, "p"), New: portRow(0, "p")}
	wrong["Old without an Id has a cell"] = impl.Change{Table: 1, Id: 4, Old: row(0, nil), New: portRow(4, "p")}
	return wrong
}

// Changes are looked at whatever table the monitor is of, and ahead of what hinders it.
func TestWrongChangesOfMonitors(t *testing.T) {
	s := impl.PlainSchema()
	fine := changes(came(0, noteRow(30, "m")), stayed(1, portRow(2, "p"), portRow(2, "q")), went(2, switchRow(3, "s")))
	for what, c := range wrongChanges() {
		for _, m := range []impl.Monitor{
			monitor("note", columnsOf("name")), monitor("port", columnsOf("name")), monitor("switch", nil), asking(monitor("port", columnsOf("name")), ""), monitor("port", nil, idIs(77)...),
			monitor("x", nil), monitor("port", columnsOf("x")), monitor("port", nil, cond("x", impl.CoEq)), {},
		} {
			for place := range len(fine) + 1 {
				updatesAre(t, what, s, m, slices.Insert(slices.Clone(fine), place, c), nil, impl.ErrBad)
			}
			updatesAre(t, what+" alone", s, m, changes(c), nil, impl.ErrBad)
		}
	}
	for what, m := range map[int]impl.Monitor{impl.ErrTable: monitor("x", nil), impl.ErrColumn: monitor("port", columnsOf("_uuid")), impl.ErrType: monitor("port", nil, cond("tag", impl.CoEq, textAtom("a"))), impl.ErrBad: {Table: "port"}} {
		updatesAre(t, fmt.Sprint("right changes, code ", what), s, m, fine, nil, what)
	}
	updatesAre(t, "no schema", impl.Schema{}, monitor("port", nil), fine, nil, impl.ErrBad)
	updatesAre(t, "another schema", schema(someTables("note", "port", "switch")...), monitor("port", nil), fine, nil, impl.ErrBad)
}

// manyChanges are of a switch whose count goes up and down, so many of them.
func manyChanges(count int) []impl.Change {
	list := make([]impl.Change, count)
	for i := range list {
		list[i] = stayed(2, countRow(4, "s", i%2), countRow(4, "s", 1-i%2))
	}
	return list
}

func TestListsOfChangesOfMonitors(t *testing.T) {
	s := impl.PlainSchema()
	m := monitor("switch", columnsOf("count"))
	for _, count := range []int{1, 2, 100, impl.MaxList - 1, impl.MaxList} {
		var want []impl.Update
		for i := range count {
			want = append(want, modify(one(4, i%2), one(4, 1-i%2)))
		}
		updatesAre(t, fmt.Sprint(count, " changes"), s, m, manyChanges(count), want, impl.OK)
		spoilt := manyChanges(count)
		spoilt[count-1].New.Id = 5
		updatesAre(t, fmt.Sprint(count, " changes, the last one is none"), s, m, spoilt, nil, impl.ErrBad)
	}
	for _, count := range []int{impl.MaxList + 1, 2 * impl.MaxList} {
		for _, list := range [][]impl.Change{manyChanges(count), make([]impl.Change, count)} {
			updatesAre(t, fmt.Sprint(count, " changes"), s, m, list, nil, impl.ErrLong)
			updatesAre(t, fmt.Sprint(count, " changes, no monitor"), s, impl.Monitor{}, list, nil, impl.ErrLong)
			updatesAre(t, fmt.Sprint(count, " changes, no table"), s, monitor("x", nil), list, nil, impl.ErrLong)
			updatesAre(t, fmt.Sprint(count, " changes, no schema"), impl.Schema{}, m, list, nil, impl.ErrLong)
		}
	}
}

func TestUpdatesOfRows(t *testing.T) {
	view := rows(one(2, 1), one(5, 2), one(9, 3))
	for _, c := range []struct {
		what string
		list []impl.Update
		want []impl.Row
	}{
		{"no update", nil, view},
		{"an empty list", updates(), view},
		{"one comes ahead", updates(insert(one(1, 7))), rows(one(1, 7), one(2, 1), one(5, 2), one(9, 3))},
		{"one comes between", updates(insert(one(6, 7))), rows(one(2, 1), one(5, 2), one(6, 7), one(9, 3))},
		{"one comes behind", updates(insert(one(10, 7))), rows(one(2, 1), one(5, 2), one(9, 3), one(10, 7))},
		{"the greatest Id comes", updates(insert(one(math.MaxInt, 7))), rows(one(2, 1), one(5, 2), one(9, 3), one(math.MaxInt, 7))},
		{"the first goes", updates(remove(one(2, 1))), rows(one(5, 2), one(9, 3))},
		{"the second goes", updates(remove(one(5, 2))), rows(one(2, 1), one(9, 3))},
		{"the last goes", updates(remove(one(9, 3))), rows(one(2, 1), one(5, 2))},
		{"all go, in no order", updates(remove(one(9, 3)), remove(one(2, 1)), remove(one(5, 2))), nil},
		{"the first is another one", updates(modify(one(2, 1), row(2, nil, nil))), rows(row(2, nil, nil), one(5, 2), one(9, 3))},
		{"the last is another one", updates(modify(one(9, 3), row(9))), rows(one(2, 1), one(5, 2), row(9))},
		{"it stays as it is", updates(modify(one(5, 2), one(5, 2))), view},
		{"Ids that fall", updates(insert(one(8, 1)), insert(one(4, 2)), modify(one(2, 1), one(2, 2))), rows(one(2, 2), one(4, 2), one(5, 2), one(8, 1), one(9, 3))},
		{"the same Id again and again", updates(remove(one(5, 2)), insert(one(5, 3)), modify(one(5, 3), one(5, 4)), modify(one(5, 4), one(5, 5))), rows(one(2, 1), one(5, 5), one(9, 3))},
		{"it comes and goes", updates(insert(one(4, 3)), remove(one(4, 3))), view},
	} {
		updatedIs(t, c.what, view, c.list, c.want, impl.OK)
	}
	updatedIs(t, "no row, no update", nil, nil, nil, impl.OK)
	updatedIs(t, "no row, one comes", nil, updates(insert(row(4))), rows(row(4)), impl.OK)
	updatedIs(t, "the only one goes", rows(row(4)), updates(remove(row(4))), nil, impl.OK)
	updatedIs(t, "rows below 1 stay", rows(row(math.MinInt), row(-1, nil), impl.Row{}, row(3)), updates(insert(row(2)), remove(row(3))), rows(row(math.MinInt), row(-1, nil), impl.Row{}, row(2)), impl.OK)
	full := plainRows(0, impl.MaxRows)
	updatedIs(t, "one more than a table may have", full, updates(insert(row(100))), append(slices.Clone(full), row(100)), impl.OK)
}

// Rows are told by all of their cells, right or not.
func TestOldOfUpdates(t *testing.T) {
	for i, a := range cellsOfRows() {
		there := rows(row(2), row(4, a...), row(7, nil))
		none := rows(row(2), row(7, nil))
		updatedIs(t, "it comes", none, updates(insert(row(4, a...))), there, impl.OK)
		updatedIs(t, "it goes", there, updates(remove(row(4, a...))), none, impl.OK)
		updatedIs(t, "it is there already", there, updates(insert(row(4, a...))), there, impl.ErrRef)
		updatedIs(t, "it is not there", none, updates(remove(row(4, a...))), none, impl.ErrRef)
		updatedIs(t, "it is not there to be another one", none, updates(modify(row(4, a...), row(4))), none, impl.ErrRef)
		for k, b := range cellsOfRows() {
			other := rows(row(2), row(4, b...), row(7, nil))
			updatedIs(t, "it is another one", there, updates(modify(row(4, a...), row(4, b...))), other, impl.OK)
			if i != k {
				updatedIs(t, "who goes is another one", other, updates(remove(row(4, a...))), other, impl.ErrRef)
				updatedIs(t, "Old is another one", other, updates(modify(row(4, a...), row(4, b...))), other, impl.ErrRef)
			}
		}
	}
	// an update's kind goes by Ids alone, as a change's does
	updatedIs(t, "Old has cells, but no Id", nil, updates(impl.Update{Id: 4, Old: row(0, nil), New: row(4)}), nil, impl.ErrRef)
	updatedIs(t, "Old has cells, but no Id, and it is there", rows(row(4)), updates(impl.Update{Id: 4, Old: row(0, nil), New: row(4)}), rows(row(4)), impl.ErrRef)
	updatedIs(t, "New has cells, but no Id", rows(row(4)), updates(impl.Update{Id: 4, Old: row(4), New: row(0, nil)}), nil, impl.OK)
}

// noUpdates are updates that are none, of row 5, which is there, and of row 4, which is not.
func noUpdates() map[string]impl.Update {
	there, not := one(5, 2), one(4, 2)
	return map[string]impl.Update{
		"nothing":                    {},
		"neither Old nor New":        {Id: 4},
		"neither, of a row there":    {Id: 5},
		"Id 0, a row comes":          {New: not},
		"Id 0, a row goes":           {Old: there},
		"Id 0, both":                 {Old: there, New: there},
		"Id 0, rows with cells":      {Old: row(0, nil), New: row(0, nil)},
		"Id below 0, it comes":       insert(row(-4)),
		"Id below 0, it goes":        remove(row(-1)),
		"Id below 0, it stays":       modify(row(-1), row(-1)),
		"the least Id":               insert(row(math.MinInt)),
		"New of another Id":          {Id: 4, New: one(3, 2)},
		"Old of another Id":          {Id: 4, Old: there},
		"Old of another Id, New not": {Id: 5, Old: not, New: there},
		"New of another Id, Old not": {Id: 5, Old: there, New: not},
		"both of another Id":         {Id: 4, Old: there, New: there},
		"Old below 0":                {Id: 4, Old: row(-1), New: not},
		"New below 0":                {Id: 5, Old: there, New: row(-1)},
	}
}

func TestUpdatesThatAreNone(t *testing.T) {
	view := rows(row(-1), one(2, 1), one(5, 2), one(9, 3))
	ahead := updates(insert(one(3, 7)), remove(one(9, 3)), modify(one(2, 1), one(2, 2)))
	far := [][]impl.Row{view, rows(row(-1), one(2, 1), one(3, 7), one(5, 2), one(9, 3)), rows(row(-1), one(2, 1), one(3, 7), one(5, 2)), rows(row(-1), one(2, 2), one(3, 7), one(5, 2))}
	for what, u := range noUpdates() {
		updatedIs(t, what, view, updates(u), view, impl.ErrBad)
		updatedIs(t, what+", of no row", nil, updates(u), nil, impl.ErrBad)
		for place := range far {
			updatedIs(t, fmt.Sprint(what, " in place ", place), view, slices.Insert(slices.Clone(ahead), place, u), far[place], impl.ErrBad)
		}
		updatedIs(t, what+", behind one with ErrRef", view, updates(remove(row(77)), u), view, impl.ErrRef)
		updatedIs(t, what+", ahead of one with ErrRef", view, updates(u, remove(row(77))), view, impl.ErrBad)
	}
	for place := range far {
		for _, u := range updates(remove(row(77)), insert(one(5, 2)), modify(one(5, 3), one(5, 2)), modify(row(77), row(77))) {
			updatedIs(t, fmt.Sprint("Old is not there, in place ", place), view, slices.Insert(slices.Clone(ahead), place, u), far[place], impl.ErrRef)
		}
	}
	updatedIs(t, "twice it comes", nil, updates(insert(row(4)), insert(row(4))), rows(row(4)), impl.ErrRef)
	updatedIs(t, "twice it goes", rows(row(4)), updates(remove(row(4)), remove(row(4))), nil, impl.ErrRef)
	updatedIs(t, "twice it is another one", rows(row(4)), updates(modify(row(4), row(4, nil)), modify(row(4), row(4, nil))), rows(row(4, nil)), impl.ErrRef)
}

func TestIdsOfRowsMustRise(t *testing.T) {
	for _, falling := range fallingIds() {
		var view []impl.Row
		for _, id := range falling {
			view = append(view, one(id, id))
		}
		for _, list := range [][]impl.Update{nil, updates(insert(row(77))), updates(remove(view[0])), updates(impl.Update{}), updates(remove(row(77)))} {
			updatedIs(t, fmt.Sprint(falling), view, list, nil, impl.ErrBad)
		}
	}
}

// updateRun are updates of one row that comes, is another one, and goes, so many of them.
func updateRun(count int) []impl.Update {
	var list []impl.Update
	for i := range count {
		list = append(list, updates(insert(one(4, 1)), modify(one(4, 1), one(4, 2)), remove(one(4, 2)))[i%3])
	}
	return list
}

func TestListsOfUpdates(t *testing.T) {
	for _, count := range []int{1, 2, 3, 100, impl.MaxList - 1, impl.MaxList} {
		want := rows(one(9, 9))
		if count%3 > 0 {
			want = rows(one(4, count%3), one(9, 9))
		}
		updatedIs(t, fmt.Sprint(count, " updates"), rows(one(9, 9)), updateRun(count), want, impl.OK)
	}
	falling, long := rows(row(2), row(1)), rowsFrom(impl.MaxList+1)
	for _, count := range []int{impl.MaxList + 1, 2 * impl.MaxList} {
		for _, view := range [][]impl.Row{nil, rows(one(9, 9)), falling, long} {
			updatedIs(t, fmt.Sprint(count, " updates"), view, updateRun(count), nil, impl.ErrLong)
			updatedIs(t, fmt.Sprint(count, " that are none"), view, make([]impl.Update, count), nil, impl.ErrLong)
		}
	}
	for _, list := range [][]impl.Update{nil, updates(insert(row(5000))), updates(impl.Update{})} {
		updatedIs(t, "a row too many", long, list, nil, impl.ErrLong)
		updatedIs(t, "a row too many, and they fall", slices.Repeat(falling, impl.MaxList/2+1), list, nil, impl.ErrLong)
		updatedIs(t, "as many as may be, and they fall", slices.Repeat(falling, impl.MaxList/2), list, nil, impl.ErrBad)
	}
	most := rowsFrom(impl.MaxList)
	updatedIs(t, "as many as may be", most, nil, most, impl.OK)
	updatedIs(t, "as many as may be, and one comes", most, updates(insert(row(5000))), append(slices.Clone(most), row(5000)), impl.OK)
	updatedIs(t, "as many as may be, and none", most, updates(impl.Update{}), most, impl.ErrBad)
}

// As many updates as may be make as many rows more, or none of as many.
func TestManyRowsOfUpdates(t *testing.T) {
	most := rowsFrom(2 * impl.MaxList)
	var come, leave []impl.Update
	for _, r := range most[impl.MaxList:] {
		come = append(come, insert(r))
	}
	for _, r := range most[:impl.MaxList] {
		leave = append(leave, remove(r))
	}
	updatedIs(t, "as many more", most[:impl.MaxList], come, most, impl.OK)
	updatedIs(t, "none are left", most[:impl.MaxList], leave, nil, impl.OK)
	slices.Reverse(come)
	updatedIs(t, "as many of none, from the last one on", nil, come, most[impl.MaxList:], impl.OK)
}
