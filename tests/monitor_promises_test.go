package tests

import (
	"fmt"
	"math/rand"
	"reflect"
	"slices"
	"strings"
	"sync"
	"testing"

	"loop.example/g00524/impl"
)

// seenSays is what chapter 12 of the document says that a right monitor sees of a row, told once more: nothing of a row that
// is not there, or that one condition is not met by.
func seenSays(x impl.Table, m impl.Monitor, r impl.Row) impl.Row {
	if r.Id == 0 {
		return impl.Row{}
	}
	for _, c := range m.Where {
		if matches, _ := impl.Matches(x, r, c); !matches {
			return impl.Row{}
		}
	}
	seen := row(r.Id)
	for _, name := range m.Columns {
		place := slices.IndexFunc(x.Columns, func(c impl.Column) bool { return c.Name == name })
		seen.Cells = append(seen.Cells, r.Cells[place])
	}
	return seen
}

func viewSays(s impl.Schema, x impl.Store, m impl.Monitor) []impl.Row {
	table, _ := impl.TableOf(s, m.Table)
	var view []impl.Row
	for _, r := range x.Tables[table] {
		if seen := seenSays(s.Tables[table], m, r); seen.Id > 0 {
			view = append(view, seen)
		}
	}
	return view
}

// updatesSay is what the chapter says of changes of right rows, told once more.
func updatesSay(s impl.Schema, m impl.Monitor, list []impl.Change) []impl.Update {
	table, _ := impl.TableOf(s, m.Table)
	var told []impl.Update
	for _, c := range list {
		if c.Table != table {
			continue
		}
		old, new := seenSays(s.Tables[table], m, c.Old), seenSays(s.Tables[table], m, c.New)
		asked := m.Modify
		if old.Id == 0 {
			asked = m.Insert
		} else if new.Id == 0 {
			asked = m.Delete
		}
		if asked && !alikeRows(old, new) {
			told = append(told, impl.Update{Id: c.Id, Old: old, New: new})
		}
	}
	return told
}

// updatedSays is what the chapter says of updates, one by one, told once more by a walk through all rows.
func updatedSays(view []impl.Row, list []impl.Update) ([]impl.Row, int) {
	made := slices.Clone(view)
	for _, u := range list {
		if _, code := impl.ChangeKind(impl.Change{Id: u.Id, Old: u.Old, New: u.New}); code != impl.OK {
			return made, impl.ErrBad
		}
		there, next := impl.Row{}, []impl.Row{}
		for _, r := range made {
			if r.Id == u.Id {
				there = r
			} else {
				next = append(next, r)
			}
		}
		if !alikeRows(there, u.Old) {
			return made, impl.ErrRef
		}
		if u.New.Id != 0 {
			next = append(next, u.New)
		}
		slices.SortFunc(next, func(a, b impl.Row) int {
			if a.Id < b.Id {
				return -1
			}
			return 1
		})
		made = next
	}
	return made, impl.OK
}

// watched counts what monitors were told, and how often rows that were there and are came or went for one.
type watched struct {
	kinds             map[int]int
	chosen, notChosen int
	unseen            int
}

// sees tells the promise of a monitor that asks for all kinds: what it saw in a, with the updates that it is told of the
// changes to b, is what it sees in b. It is told of the ways from one to the other, too.
func (w *watched) sees(t *testing.T, what string, s impl.Schema, m impl.Monitor, a, b impl.Store) []impl.Update {
	t.Helper()
	viewIs(t, what, s, a, m, viewSays(s, a, m), impl.OK)
	saw, _ := impl.Snapshot(s, a, m)
	list, code := impl.DiffStores(a, b)
	if code != impl.OK {
		t.Errorf("%s: DiffStores has the code %d", what, code)
	}
	updatesAre(t, what, s, m, list, updatesSay(s, m, list), impl.OK)
	told, _ := impl.MonitorUpdates(s, m, list)
	made, code := impl.ApplyUpdates(saw, told)
	now, _ := impl.Snapshot(s, b, m)
	if code != impl.OK || !impl.SameRows(made, now) || !alike(made, now) || !alike(now, viewSays(s, b, m)) {
		t.Errorf("%s: monitor %s saw %s, was told %s, has %s, %d, but sees %s", what, brief(m), brief(saw), brief(told), brief(made), code, brief(now))
	}
	w.count(s, m, list, told)
	return told
}

func (w *watched) count(s impl.Schema, m impl.Monitor, list []impl.Change, told []impl.Update) {
	table, _ := impl.TableOf(s, m.Table)
	for _, c := range list {
		place := slices.IndexFunc(told, func(u impl.Update) bool { return u.Id == c.Id })
		if c.Table == table && place < 0 {
			w.unseen++
		}
	}
	for _, u := range told {
		kind, _ := impl.ChangeKind(impl.Change{Id: u.Id, Old: u.Old, New: u.New})
		w.kinds[kind]++
		whole := slices.IndexFunc(list, func(c impl.Change) bool { return c.Table == table && c.Id == u.Id })
		if whole < 0 || list[whole].Old.Id == 0 || list[whole].New.Id == 0 {
			continue
		}
		switch kind {
		case 1:
			w.chosen++
		case 2:
			w.notChosen++
		}
	}
}

// enough tells that all kinds of updates were there, also of rows that are chosen no more, or now.
func (w *watched) enough(t *testing.T, least int) {
	t.Helper()
	if w.kinds[1] < least || w.kinds[2] < least || w.kinds[3] < least || w.chosen < least || w.notChosen < least || w.unseen < least {
		t.Errorf("kinds %v, %d chosen now, %d chosen no more, %d not seen", w.kinds, w.chosen, w.notChosen, w.unseen)
	}
}

// fewPorts are tables of up to two ports, each not there or one of four.
func fewPorts() [][]impl.Row {
	all := [][]impl.Row{nil}
	for id := 1; id <= 2; id++ {
		var more [][]impl.Row
		for _, list := range all {
			more = append(more, list)
			for up := range 2 {
				for _, tag := range [][]impl.Atom{nil, atoms(intAtom(5))} {
					more = append(more, append(slices.Clone(list), row(id, word("p"), tag, atoms(boolAtom(up)))))
				}
			}
		}
		all = more
	}
	return all
}

// portMonitors are with and without Columns, with and without a Where.
func portMonitors() []impl.Monitor {
	var all []impl.Monitor
	for _, names := range [][]string{nil, columnsOf("up"), columnsOf("name"), columnsOf("tag", "up"), columnsOf("up", "tag", "up", "name")} {
		for _, where := range [][]impl.Cond{nil, conds(cond("up", impl.CoEq, boolAtom(1))), conds(cond("tag", impl.CoGe, intAtom(5))), conds(cond("tag", impl.CoEq)), idIs(2), conds(cond("up", impl.CoNe, boolAtom(1)), cond("tag", impl.CoIncludes, intAtom(5))), nameIs("q"), nameIs("p")} {
			all = append(all, monitor("port", names, where...))
		}
	}
	return all
}

// All pairs of tables of up to two ports, for all of these monitors.
func TestPromise12FewRows(t *testing.T) {
	s := impl.PlainSchema()
	w := watched{kinds: map[int]int{}}
	for _, a := range fewPorts() {
		for _, b := range fewPorts() {
			for _, m := range portMonitors() {
				w.sees(t, "few rows", s, m, store(3, nil, a, nil), store(3, nil, b, nil))
			}
		}
	}
	w.enough(t, 1000)
}

// someColumns answers names of a table's columns, in any order, also twice.
func someColumns(r *rand.Rand, x impl.Table) []string {
	var list []string
	for range r.Intn(impl.MaxColumns + 1) {
		list = append(list, x.Columns[r.Intn(len(x.Columns))].Name)
	}
	return list
}

// someMonitor answers one of a schema that asks for all kinds, and that nothing hinders.
func someMonitor(r *rand.Rand, s impl.Schema) impl.Monitor {
	x := s.Tables[r.Intn(len(s.Tables))]
	m := monitor(x.Name, someColumns(r, x))
	for len(m.Where) < r.Intn(3) {
		if c := someCond(r, x); codeSays(x, c) == impl.OK {
			m.Where = append(m.Where, c)
		}
	}
	return m
}

// Stores that fit, whoever refers to whom: from one to another one, from one to itself, and to one without rows.
func TestPromise12SomeStores(t *testing.T) {
	r := rand.New(rand.NewSource(12))
	w := watched{kinds: map[int]int{}}
	for range 600 {
		s := schema(someAskedTable(r, "a"), someAskedTable(r, "b"))
		x, y := someAskedStore(r, s), someAskedStore(r, s)
		none, _ := impl.NewStore(s)
		for range 3 {
			m := someMonitor(r, s)
			w.sees(t, "some stores", s, m, x, y)
			w.sees(t, "and back", s, m, y, x)
			w.sees(t, "from nothing", s, m, none, x)
			w.sees(t, "to nothing", s, m, x, none)
			if told := w.sees(t, "the same", s, m, x, x); len(told) > 0 {
				t.Errorf("%s is told %s of nothing", brief(m), brief(told))
			}
		}
	}
	w.enough(t, 800)
}

// Over one transaction after another, each monitor's view goes on by what it is told alone.
func TestPromise12Transactions(t *testing.T) {
	r := rand.New(rand.NewSource(122))
	w := watched{kinds: map[int]int{}}
	for range 150 {
		s := someSchema(r)
		x, _ := impl.NewStore(s)
		monitors, views := make([]impl.Monitor, 6), make([][]impl.Row, 6)
		for i := range monitors {
			monitors[i] = someMonitor(r, s)
			views[i], _ = impl.Snapshot(s, x, monitors[i])
		}
		for range 30 {
			list := someTxn(r, s, x)
			y, told := txnHolds(t, "monitors", s, x, list, []string{"lock"})
			for i, m := range monitors {
				ups := w.sees(t, brief(list), s, m, x, y)
				if lastCode(told) != impl.OK && len(ups) > 0 {
					t.Errorf("%s failed, and %s is told %s", brief(list), brief(m), brief(ups))
				}
				views[i], _ = impl.ApplyUpdates(views[i], ups)
				viewIs(t, "from the beginning on", s, y, m, views[i], impl.OK)
			}
			x = y
		}
	}
	w.enough(t, 90)
}

// Operations of the plain schema, step by step, for a monitor of all that is told of switches with a count of 0 or more.
func TestPromise12RowsThatAreChosenNoMore(t *testing.T) {
	s, x := impl.PlainSchema(), smallStore()
	m := monitor("switch", columnsOf("name", "count"), cond("count", impl.CoGe, intAtom(0)))
	seen := func(id int, name string, count int) impl.Row { return row(id, word(name), atoms(intAtom(count))) }
	count := func(name string, n int) impl.Op { return updateOp("switch", nameIs(name), set("count", intAtom(n))) }
	less := func(n int) impl.Op { return mutateOp("switch", nil, mut("count", impl.MuSub, intAtom(n))) }
	w := watched{kinds: map[int]int{}}
	for _, c := range []struct {
		list []impl.Op
		want []impl.Update
	}{
		{ops(count("s", -1)), updates(remove(seen(3, "s", 0)))},
		{ops(count("s", -2)), nil},
		{ops(updateOp("switch", nameIs("s"), nameSet("z"))), nil},
		{ops(count("z", 4)), updates(insert(seen(3, "z", 4)))},
		{ops(less(2)), updates(modify(seen(3, "z", 4), seen(3, "z", 2)), remove(seen(8, "t", 0)))},
		{ops(less(1), less(-1)), nil},
		{ops(updateOp("switch", nil, set("ports", ids(2, 7)...))), nil},
		{ops(count("t", 9), deleteOp("switch", nameIs("z")...)), updates(remove(seen(3, "z", 2)), insert(seen(8, "t", 9)))},
		{ops(insertOp("switch", "", nameSet("u")), insertOp("switch", "", nameSet("v"), set("count", intAtom(-5)))), updates(insert(seen(20, "u", 0)))},
		{ops(less(1), count("v", 0)), updates(modify(seen(8, "t", 9), seen(8, "t", 8)), remove(seen(20, "u", 0)), insert(seen(21, "v", 0)))},
		{ops(deleteOp("note"), insertOp("note", "")), nil},
		{ops(deleteOp("switch"), abortOp()), nil},
		{ops(deleteOp("switch")), updates(remove(seen(8, "t", 8)), remove(seen(21, "v", 0)))},
	} {
		y, _ := txnHolds(t, brief(c.list), s, x, c.list, nil)
		told := w.sees(t, brief(c.list), s, m, x, y)
		if !alike(told, c.want) {
			t.Errorf("%s: %s is told, not %s", brief(c.list), brief(told), brief(c.want))
		}
		x = y
	}
	if w.chosen != 3 || w.notChosen != 3 {
		t.Errorf("%d chosen now, %d chosen no more", w.chosen, w.notChosen)
	}
}

// Monitors of all tables at once see all that a transaction does, also what goes because nobody holds it.
func TestPromise12WhatNobodyHolds(t *testing.T) {
	s, x := impl.PlainSchema(), smallStore()
	y, _ := txnHolds(t, "a switch goes", s, x, ops(deleteOp("switch", nameIs("t")...)), nil)
	list, _ := impl.DiffStores(x, y)
	updatesAre(t, "notes", s, monitor("note", columnsOf("about")), list, updates(modify(row(5, ids(2, 7)), row(5, ids(2)))), impl.OK)
	updatesAre(t, "notes by what they are about", s, monitor("note", columnsOf("name"), cond("about", impl.CoIncludes, ids(7)...)), list, updates(remove(row(5, word("n")))), impl.OK)
	updatesAre(t, "notes by what they are not about", s, monitor("note", columnsOf("name"), cond("about", impl.CoExcludes, ids(7)...)), list, updates(insert(row(5, word("n")))), impl.OK)
	updatesAre(t, "ports", s, monitor("port", columnsOf("name")), list, updates(remove(row(7, word("q")))), impl.OK)
	updatesAre(t, "switches", s, monitor("switch", nil), list, updates(remove(row(8))), impl.OK)
}

// What a monitor that asks for less is told is what one that asks for all is told of those kinds, in that order.
func TestPromise12WhatIsAskedFor(t *testing.T) {
	r := rand.New(rand.NewSource(1212))
	for range 1500 {
		s := schema(someAskedTable(r, "a"), someAskedTable(r, "b"))
		m := someMonitor(r, s)
		list, _ := impl.DiffStores(someAskedStore(r, s), someAskedStore(r, s))
		all, _ := impl.MonitorUpdates(s, m, list)
		for _, kinds := range []string{"", "1", "2", "3", "12", "13", "23"} {
			var want []impl.Update
			for _, u := range all {
				if kind, _ := impl.ChangeKind(impl.Change{Id: u.Id, Old: u.Old, New: u.New}); strings.Contains(kinds, fmt.Sprint(kind)) {
					want = append(want, u)
				}
			}
			updatesAre(t, kinds, s, asking(m, kinds), list, want, impl.OK)
		}
		var apart []impl.Update
		for _, c := range list {
			more, _ := impl.MonitorUpdates(s, m, changes(c))
			apart = append(apart, more...)
		}
		if !alike(all, apart) {
			t.Errorf("%s told apart: %s", brief(all), brief(apart))
		}
	}
}

// wrongMonitor makes a monitor another one in one thing, which is not right most often.
func wrongMonitor(r *rand.Rand, m impl.Monitor) impl.Monitor {
	switch r.Intn(7) {
	case 0:
		m.Name = []string{"", "9", strings.Repeat("m", 41)}[r.Intn(3)]
	case 1:
		m.Table = []string{"", "zz", strings.Repeat("t", 41)}[r.Intn(3)]
	case 2:
		m.Columns = append(slices.Clone(m.Columns), []string{"", "zz", "_uuid", strings.Repeat("c", 41)}[r.Intn(4)])
	case 3:
		m.Columns = make([]string, 5+r.Intn(3))
	case 4:
		m.Where = append(slices.Clone(m.Where), []impl.Cond{{}, cond("zz", 1), cond("_uuid", 1), cond("_uuid", 3, idAtom(1)), cond("_uuid", 4, textAtom("a")), cond("c0", 3), cond("c0", 9), cond("c0", 1, intAtom(1), textAtom("a"))}[r.Intn(8)])
	case 5:
		m.Where = make([]impl.Cond, 9)
	}
	return m
}

// monitorSays is what the chapter says of monitors: the code of one that is not right, else what hinders it.
func monitorSays(s impl.Schema, m impl.Monitor) (int, int) {
	if !impl.SchemaOK(s) || !impl.NameOK(m.Name) || len(m.Table) > 40 || len(m.Columns) > 6 || len(m.Where) > 8 {
		return impl.OK, impl.ErrBad
	}
	for _, name := range m.Columns {
		if len(name) > 40 {
			return impl.OK, impl.ErrBad
		}
	}
	for _, c := range m.Where {
		if _, code := impl.CondCode(s.Tables[0], c); code != impl.OK {
			return impl.OK, impl.ErrBad
		}
	}
	place, code := impl.TableOf(s, m.Table)
	if code != impl.OK {
		return code, impl.OK
	}
	for _, name := range m.Columns {
		if _, code := impl.ColumnOf(s.Tables[place], name); code != impl.OK {
			return code, impl.OK
		}
	}
	for _, c := range m.Where {
		if hinders, _ := impl.CondCode(s.Tables[place], c); hinders != impl.OK {
			return hinders, impl.OK
		}
	}
	return impl.OK, impl.OK
}

// Schemas, stores and monitors with something wrong have the codes that the document says.
func TestPromise12SomeCodes(t *testing.T) {
	r := rand.New(rand.NewSource(1))
	hindered, codes, views := map[int]int{}, map[int]int{}, map[int]int{}
	for range 6000 {
		s := schema(someAskedTable(r, "a"), someAskedTable(r, "b"))
		x, m := someAskedStore(r, s), someMonitor(r, s)
		for range r.Intn(3) {
			m = wrongMonitor(r, m)
		}
		if r.Intn(12) == 0 {
			s.Tables[r.Intn(2)].Name = []string{"", "a", "b"}[r.Intn(3)]
		}
		want, wantCode := monitorSays(s, m)
		monitorIs(t, brief(m), s, m, want, wantCode)
		hindered[want]++
		codes[wantCode]++
		if r.Intn(3) == 0 {
			x = spoiltStore(r, x)
		}
		wantView := wantCode
		if _, code := impl.StrongCount(s, x, 0, 0); code == impl.ErrBad {
			wantView = impl.ErrBad
		}
		if wantView == impl.OK {
			wantView = want
		}
		views[wantView]++
		if wantView == impl.OK {
			viewIs(t, brief(m), s, x, m, viewSays(s, x, m), impl.OK)
		} else {
			viewIs(t, brief(m), s, x, m, nil, wantView)
		}
	}
	for _, code := range []int{impl.OK, impl.ErrTable, impl.ErrColumn, impl.ErrType} {
		if hindered[code] < 100 || views[code] < 60 {
			t.Errorf("hindered %v, views %v", hindered, views)
		}
	}
	if codes[impl.OK] < 1000 || codes[impl.ErrBad] < 1000 || views[impl.ErrBad] < 1000 {
		t.Errorf("codes %v, views %v", codes, views)
	}
}

// spoiltChange makes a change another one in one thing.
func spoiltChange(r *rand.Rand, c impl.Change) impl.Change {
	side := &c.Old
	if r.Intn(2) == 0 {
		side = &c.New
	}
	*side = copyRow(*side)
	switch r.Intn(7) {
	case 0:
		c.Table = []int{-1, 0, 1, 2}[r.Intn(4)]
	case 1:
		c.Id = []int{-1, 0, c.Id + 1, c.Id - 1}[r.Intn(4)]
	case 2:
		side.Id = []int{-1, 0, c.Id, c.Id + 1}[r.Intn(4)]
	case 3:
		*side = impl.Row{}
	case 4:
		side.Cells = append(side.Cells, nil)
	case 5:
		for i := range side.Cells {
			side.Cells[i] = someSet(r, 1+r.Intn(4), 0, 4)
		}
	case 6:
		c.Old, c.New = c.New, c.Old
	}
	return c
}

// changeFits is what the chapter says of a change that a monitor may be told of.
func changeFits(s impl.Schema, c impl.Change) bool {
	if _, code := impl.ChangeKind(c); code != impl.OK || c.Table < 0 || c.Table >= len(s.Tables) {
		return false
	}
	for _, r := range rows(c.Old, c.New) {
		if !alikeRows(r, impl.Row{}) && !impl.RowOK(s.Tables[c.Table], r) {
			return false
		}
	}
	return true
}

// Changes as they come are told as the document says, with a code and without.
func TestPromise12SomeChanges(t *testing.T) {
	r := rand.New(rand.NewSource(2))
	codes := map[int]int{}
	for range 6000 {
		s := schema(someAskedTable(r, "a"), someAskedTable(r, "b"))
		m := asking(someMonitor(r, s), []string{"123", "123", "1", "23"}[r.Intn(4)])
		list, _ := impl.DiffStores(someAskedStore(r, s), someAskedStore(r, s))
		for range r.Intn(3) {
			i := r.Intn(len(list))
			list[i] = spoiltChange(r, list[i])
		}
		if r.Intn(5) == 0 {
			m = wrongMonitor(r, m)
		}
		hinders, code := monitorSays(s, m)
		for _, c := range list {
			if !changeFits(s, c) {
				code = impl.ErrBad
			}
		}
		if code == impl.OK {
			code = hinders
		}
		var want []impl.Update
		if code == impl.OK {
			want = updatesSay(s, m, list)
		}
		updatesAre(t, brief(list), s, m, list, want, code)
		codes[code]++
	}
	for _, code := range []int{impl.OK, impl.ErrBad, impl.ErrTable, impl.ErrColumn, impl.ErrType} {
		if codes[code] < 10 || code <= impl.ErrBad && codes[code] < 1500 {
			t.Errorf("codes %v", codes)
		}
	}
}

// Updates as they come are put into rows as the document says, as far as they come.
func TestPromise12SomeUpdates(t *testing.T) {
	r := rand.New(rand.NewSource(3))
	codes, far := map[int]int{}, 0
	for range 6000 {
		view := someOddTable(r, 14, 20)
		if r.Intn(4) == 0 {
			view = append(rows(row(-3), row(0, nil)), view...)
		}
		now, list := view, []impl.Update{}
		for range r.Intn(25) {
			c := someChange(r, store(1, now))
			u := impl.Update{Id: c.Id, Old: c.Old, New: c.New}
			list = append(list, u)
			if made, code := updatedSays(now, updates(u)); code == impl.OK {
				now = made
			}
		}
		want, code := updatedSays(view, list)
		updatedIs(t, brief(view)+" "+brief(list), view, list, want, code)
		codes[code]++
		if code != impl.OK && !alike(want, view) {
			far++
		}
	}
	if codes[impl.OK] < 1000 || codes[impl.ErrBad] < 300 || codes[impl.ErrRef] < 300 || far < 1000 {
		t.Errorf("codes %v, %d came some way", codes, far)
	}
}

// handedWatch is what the calls of monitors are given.
type handedWatch struct {
	Schema  impl.Schema
	Store   impl.Store
	Monitor impl.Monitor
	Changes []impl.Change
	Rows    []impl.Row
	Updates []impl.Update
}

// watchOut is what they answer.
type watchOut struct {
	View, Made []impl.Row
	Told       []impl.Update
	Codes      []int
	Same       []bool
}

func watchedOut(h handedWatch) watchOut {
	var out watchOut
	codes := [5]int{}
	codes[0], codes[1] = impl.MonitorCode(h.Schema, h.Monitor)
	out.View, codes[2] = impl.Snapshot(h.Schema, h.Store, h.Monitor)
	out.Told, codes[3] = impl.MonitorUpdates(h.Schema, h.Monitor, h.Changes)
	out.Made, codes[4] = impl.ApplyUpdates(h.Rows, h.Updates)
	out.Codes = codes[:]
	out.Same = []bool{impl.SameRows(h.Rows, h.Rows), impl.SameRows(h.Rows, out.View), impl.SameRows(out.Made, h.Rows)}
	return out
}

// watchAnswers are those of all calls of monitors; empty lists and nil are told alike.
func watchAnswers(h handedWatch) watchOut {
	return again(reflect.ValueOf(watchedOut(h)), true, 0).Interface().(watchOut)
}

func handedWatchAgain(h handedWatch, bare bool, room int) handedWatch {
	return again(reflect.ValueOf(h), bare, room).Interface().(handedWatch)
}

// watchOf answers what is handed in of a monitor over two stores.
func watchOf(s impl.Schema, m impl.Monitor, a, b impl.Store) handedWatch {
	h := handedWatch{Schema: s, Store: a, Monitor: m}
	h.Changes, _ = impl.DiffStores(a, b)
	h.Rows, _ = impl.Snapshot(s, a, m)
	h.Updates, _ = impl.MonitorUpdates(s, m, h.Changes)
	return h
}

// allHandedWatches are of right and wrong stores, monitors, changes and updates.
func allHandedWatches() []handedWatch {
	s, x := impl.PlainSchema(), smallStore()
	y := store(30, rows(noteRow(5, "n", 7), noteRow(9, "n"), noteRow(21, "new", 22)), rows(portRow(7, "q"), portRow(22, "r")), rows(countRow(3, "s", 5, 2), countRow(8, "t", -1, 7, 22)))
	all := []handedWatch{{}, {Schema: s}, {Schema: s, Store: x}}
	monitors := []impl.Monitor{
		monitor("note", columnsOf("about", "name", "about")), monitor("note", columnsOf(), conds()...), monitor("port", columnsOf("tag", "up")), monitor("switch", columnsOf("ports"), cond("count", impl.CoGe, intAtom(0))),
		monitor("switch", columnsOf("ports", "count"), cond("ports", impl.CoIncludes, ids(2)...), cond("name", impl.CoNe)), monitor("x", nil), monitor("port", columnsOf("_uuid")), monitor("port", nil, cond("x", impl.CoEq)), {Table: "note"},
		asking(monitor("switch", columnsOf("name")), "2"),
	}
	for _, m := range monitors {
		all = append(all, watchOf(s, m, x, y), watchOf(s, m, y, x), watchOf(s, m, x, x), watchOf(heldSchema(), m, x, y))
		for i, z := range someStores() {
			h := watchOf(s, m, x, z)
			h.Store = z
			if len(z.Tables) > 0 {
				h.Rows = z.Tables[i%len(z.Tables)]
			}
			all = append(all, h)
		}
	}
	for i := range all {
		if i%3 == 0 {
			all[i].Updates = append(slices.Clone(all[i].Updates), insert(row(77, ids(1), nil)), modify(row(77, ids(1), nil), row(77, ids(1), ids(1))), impl.Update{})
		}
	}
	return all
}

func TestPromise1MonitorsAlikeAnswers(t *testing.T) {
	other := watchOf(impl.PlainSchema(), monitor("switch", columnsOf("name")), smallStore(), store(20, nil, nil, nil))
	for _, h := range allHandedWatches() {
		first := watchAnswers(h)
		watchedOut(other)
		if second := watchAnswers(handedWatchAgain(h, false, 0)); !reflect.DeepEqual(first, second) {
			t.Errorf("%s: %s, then %s", brief(h), brief(first), brief(second))
		}
		if bare := watchAnswers(handedWatchAgain(h, true, 0)); !reflect.DeepEqual(first, bare) {
			t.Errorf("%s: %s, with nil for empty lists %s", brief(h), brief(first), brief(bare))
		}
	}
}

func TestPromise1MonitorsStay(t *testing.T) {
	for _, h := range allHandedWatches() {
		roomy := handedWatchAgain(h, false, 2)
		before := wholeOf(reflect.ValueOf(roomy))
		answers := watchAnswers(roomy)
		if after := wholeOf(reflect.ValueOf(roomy)); after != before {
			t.Fatalf("%.500s was changed: %.500s", before, after)
		}
		if tight := watchAnswers(h); !reflect.DeepEqual(answers, tight) {
			t.Errorf("%s: room changes an answer", brief(h))
		}
	}
}

// watchIsNew tells that no answer shares memory with what was given, nor two lists of one with each other.
func watchIsNew(t *testing.T, h handedWatch) watchOut {
	t.Helper()
	out := watchedOut(h)
	isNew(t, fmt.Sprintf("Snapshot of %s with code %d", brief(h.Monitor), out.Codes[2]), out.View, h)
	isNew(t, fmt.Sprintf("MonitorUpdates of %s with code %d", brief(h.Monitor), out.Codes[3]), out.Told, h)
	isNew(t, fmt.Sprintf("ApplyUpdates of %s with code %d", brief(h.Rows), out.Codes[4]), out.Made, h)
	isNew(t, "once more", watchedOut(h), out)
	return out
}

func TestPromise1MonitorsAreNew(t *testing.T) {
	for _, h := range allHandedWatches() {
		watchIsNew(t, h)
		watchIsNew(t, handedWatchAgain(h, false, 2))
	}
	r := rand.New(rand.NewSource(4))
	for range 300 {
		s := schema(someAskedTable(r, "a"), someAskedTable(r, "b"))
		watchIsNew(t, watchOf(s, someMonitor(r, s), someAskedStore(r, s), someAskedStore(r, s)))
	}
}

// All rows may have one list of cells, all cells one set, changes and updates the store's own rows, in Old and in New, and
// a monitor a column again and again.
func TestPromise1MonitorsThatShareMemory(t *testing.T) {
	d := withRoom(ids(2, 7))
	cells := [][]impl.Atom{d, d, d[:1]}
	s := schema(table("t", called(refColumn(3, "t", false), "a"), called(refColumn(3, "t", false), "b"), called(refColumn(3, "t", false), "c")))
	list := rows(row(2, cells...), row(5, cells...), row(7, cells...))
	other := row(5, cells[2], cells[1], cells[0])
	names := columnsOf("a", "b", "a", "c", "a", "a")
	for _, where := range [][]impl.Cond{nil, conds(cond("a", impl.CoEq, d...)), conds(cond("c", impl.CoEq, d[:1]...), cond("a", impl.CoIncludes, d...))} {
		h := handedWatch{Schema: s, Store: store(9, list), Monitor: monitor("t", names, where...), Rows: list}
		h.Changes = changes(went(0, list[0]), came(0, list[0]), stayed(0, list[1], other), stayed(0, other, list[1]), came(0, row(8, cells...)), came(0, row(8, cells...)))
		h.Updates = updates(remove(list[0]), insert(row(2, other.Cells...)), modify(list[1], other), modify(other, list[1]), insert(row(8, cells...)), insert(row(9, cells...)), insert(row(9, cells...)))
		before := wholeOf(reflect.ValueOf(h))
		out := watchIsNew(t, h)
		made, code := updatedSays(h.Rows, h.Updates)
		if !alike(out.View, viewSays(s, h.Store, h.Monitor)) || !alike(out.Told, updatesSay(s, h.Monitor, h.Changes)) || !alike(out.Made, made) || code != impl.ErrRef {
			t.Errorf("shared memory: %s", brief(out))
		}
		if !slices.Equal(out.Codes, []int{impl.OK, impl.OK, impl.OK, impl.OK, impl.ErrRef}) || wholeOf(reflect.ValueOf(h)) != before {
			t.Errorf("the codes are %v, or it was changed", out.Codes)
		}
	}
}

// What is written into an answer changes neither what was given nor the next answer.
func TestPromise1WhoWritesIntoMonitors(t *testing.T) {
	s, x := impl.PlainSchema(), smallStore()
	for _, m := range []impl.Monitor{monitor("note", columnsOf("about", "name")), monitor("switch", columnsOf("ports", "name", "ports"), nameIs("t")...)} {
		h := watchOf(s, m, x, withCell(withCell(x, 2, 1, 2, ids(2)), 0, 0, 1, nil))
		want := watchAnswers(handedWatchAgain(h, false, 0))
		first := watchedOut(h)
		var answered []impl.Row
		for _, u := range first.Told {
			answered = append(answered, u.Old, u.New)
		}
		for _, r := range slices.Concat(answered, first.View, first.Made) {
			for _, d := range r.Cells {
				spoilAtoms(d)
			}
			clear(r.Cells)
		}
		clear(first.Told)
		clear(first.View)
		clear(first.Made)
		if second := watchAnswers(h); len(want.Told) == 0 || !reflect.DeepEqual(second, want) || !alikeStores(x, smallStore()) {
			t.Errorf("a spoilt answer changes the next one: %s, not %s", brief(second), brief(want))
		}
	}
}

func TestPromise1MonitorsAtTheSameTime(t *testing.T) {
	given := allHandedWatches()
	var all sync.WaitGroup
	for range 8 {
		all.Go(func() {
			for _, h := range given {
				first := watchAnswers(h)
				if second := watchAnswers(h); !reflect.DeepEqual(first, second) {
					t.Errorf("%s: %s, then %s", brief(h), brief(first), brief(second))
				}
			}
		})
	}
	all.Wait()
}
