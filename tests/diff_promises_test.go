package tests

import (
	"fmt"
	"math"
	"math/rand"
	"reflect"
	"slices"
	"sync"
	"testing"

	"loop.example/g00524/impl"
)

// diffSays is what chapter 11 of the document says of two stores in which Ids rise, told once more by a look at each Id.
func diffSays(a, b impl.Store) []impl.Change {
	var list []impl.Change
	for table := range a.Tables {
		var numbers []int
		for _, r := range slices.Concat(a.Tables[table], b.Tables[table]) {
			numbers = append(numbers, r.Id)
		}
		slices.Sort(numbers)
		for _, id := range slices.Compact(numbers) {
			old, _ := impl.RowAt(a, table, id)
			new, _ := impl.RowAt(b, table, id)
			if !alikeRows(old, new) {
				list = append(list, impl.Change{Table: table, Id: id, Old: old, New: new})
			}
		}
	}
	return list
}

// changedSays is what the chapter says of changes, one by one, told once more by the calls of chapter 6.
func changedSays(x impl.Store, list []impl.Change) (impl.Store, int) {
	y := copyStore(x)
	for _, c := range list {
		comes, goes := c.Old.Id == 0 && c.New.Id == c.Id, c.Old.Id == c.Id && c.New.Id == 0
		if c.Id <= 0 || !comes && !goes && (c.Old.Id != c.Id || c.New.Id != c.Id) || c.Table < 0 || c.Table >= len(y.Tables) {
			return y, impl.ErrBad
		}
		if there, _ := impl.RowAt(y, c.Table, c.Id); !alikeRows(there, c.Old) {
			return y, impl.ErrRef
		}
		if goes {
			y, _ = impl.DropRow(y, c.Table, c.Id)
			continue
		}
		made, code := impl.PutRow(y, c.Table, c.New)
		if code != impl.OK {
			return y, code
		}
		y = made
		for c.Id < math.MaxInt && y.Next <= c.Id {
			y.Next = c.Id + 1
		}
	}
	return y, impl.OK
}

// putAbove answers what Next is when the rows that are there behind some changes, or ahead of them, were put.
func putAbove(next int, list []impl.Change, back bool) int {
	for _, c := range list {
		put := c.New.Id
		if back {
			put = c.Old.Id
		}
		if put != 0 {
			next = max(next, put+1)
		}
	}
	return next
}

// makesAndUnmakes tells the promise of two stores: the changes from a to b make b of a, and a of b, row by row.
func makesAndUnmakes(t *testing.T, what string, a, b impl.Store) []impl.Change {
	t.Helper()
	list, code := impl.DiffStores(a, b)
	if want := diffSays(a, b); code != impl.OK || !alike(list, want) {
		t.Errorf("%s: DiffStores(%s, %s) is %s, %d, not %s", what, brief(a), brief(b), brief(list), code, brief(want))
	}
	made, code := impl.ApplyChanges(a, list)
	if want := withNext(b, putAbove(a.Next, list, false)); code != impl.OK || !alikeStores(made, want) {
		t.Errorf("%s: ApplyChanges(%s, %s) is %s, %d, not %s", what, brief(a), brief(list), brief(made), code, brief(want))
	}
	back, code := impl.UndoChanges(b, list)
	if want := withNext(a, putAbove(b.Next, list, true)); code != impl.OK || !alikeStores(back, want) {
		t.Errorf("%s: UndoChanges(%s, %s) is %s, %d, not %s", what, brief(b), brief(list), brief(back), code, brief(want))
	}
	return list
}

// fewRows are tables of up to three rows, each not there or one of three.
func fewRows() [][]impl.Row {
	all := [][]impl.Row{nil}
	for id := 1; id <= 3; id++ {
		var more [][]impl.Row
		for _, list := range all {
			more = append(more, list)
			for _, cells := range [][][]impl.Atom{nil, {word("a")}, {word("b"), nil}} {
				more = append(more, append(slices.Clone(list), row(id, cells...)))
			}
		}
		all = more
	}
	return all
}

func TestPromise11FewRows(t *testing.T) {
	counts := map[int]int{}
	for _, a := range fewRows() {
		for _, b := range fewRows() {
			list := makesAndUnmakes(t, "few rows", store(2, a), store(3, b))
			counts[len(list)]++
		}
	}
	// of each Id four pairs of the sixteen are alike
	if want := map[int]int{0: 64, 1: 576, 2: 1728, 3: 1728}; !reflect.DeepEqual(counts, want) {
		t.Errorf("so many changes: %v, not %v", counts, want)
	}
}

// someOddTable answers a table of at most so many rows, whose Ids are from 1 to most, and whose cells need not be right.
func someOddTable(r *rand.Rand, count, most int) []impl.Row {
	var list []impl.Row
	for _, n := range r.Perm(most)[:r.Intn(count+1)] {
		list = append(list, row(n+1, someOddCells(r)...))
	}
	slices.SortFunc(list, func(a, b impl.Row) int { return a.Id - b.Id })
	return list
}

func someOddCells(r *rand.Rand) [][]impl.Atom {
	return [][][]impl.Atom{nil, {nil}, {ids(1)}, {ids(1), word("a")}, {ids(1), word("b")}, {ids(2, 1), nil}, {atoms(impl.Atom{Kind: 5}), ints(0, 12)}}[r.Intn(7)]
}

// Tables that have room for all rows of both stores: whatever order they come and go in.
func TestPromise11SomeStores(t *testing.T) {
	r := rand.New(rand.NewSource(11))
	kinds := map[int]int{}
	for range 6000 {
		a, b := store(r.Intn(30)-5), store(r.Intn(30)-5)
		for range r.Intn(5) {
			a.Tables, b.Tables = append(a.Tables, someOddTable(r, 6, 14)), append(b.Tables, someOddTable(r, 6, 14))
		}
		for _, c := range makesAndUnmakes(t, "some stores", a, b) {
			kind, code := impl.ChangeKind(c)
			if code != impl.OK {
				t.Errorf("ChangeKind(%s) is %d, %d", brief(c), kind, code)
			}
			kinds[kind]++
		}
		makesAndUnmakes(t, "a store and itself", a, a)
		makesAndUnmakes(t, "a store and none", a, store(4, make([][]impl.Row, len(a.Tables))...))
	}
	for kind := 1; kind <= 3; kind++ {
		if kinds[kind] < 5000 {
			t.Errorf("only %d changes are of kind %d", kinds[kind], kind)
		}
	}
}

// Full tables, of which some rows go and others come with greater Ids, as transactions give them.
func TestPromise11FullTables(t *testing.T) {
	r := rand.New(rand.NewSource(1111))
	for range 2000 {
		a, b := store(40, nil, nil), store(40+r.Intn(9), nil, nil)
		for table := range 2 {
			for id := 1; id <= impl.MaxRows; id++ {
				a.Tables[table] = append(a.Tables[table], row(id, someOddCells(r)...))
				if r.Intn(3) > 0 {
					b.Tables[table] = append(b.Tables[table], row(id, someOddCells(r)...))
				}
			}
			for id := 20; len(b.Tables[table]) < impl.MaxRows; id++ {
				b.Tables[table] = append(b.Tables[table], row(id, ids(id)))
			}
		}
		makesAndUnmakes(t, "full tables", a, b)
	}
}

// txnChanges counts what the changes of transactions were.
type txnChanges struct {
	kinds      map[int]int
	none, gone int
}

// hold tells the promise of a store and what a transaction made of it.
func (seen *txnChanges) hold(t *testing.T, s impl.Schema, x, y impl.Store, list []impl.Op, told []impl.Result) {
	t.Helper()
	found := makesAndUnmakes(t, brief(list), x, y)
	for _, c := range found {
		kind, _ := impl.ChangeKind(c)
		seen.kinds[kind]++
		if (kind == 1) != (c.Id >= x.Next) || !impl.RowOK(s.Tables[c.Table], []impl.Row{{}, c.New, c.Old, c.New}[kind]) {
			t.Errorf("%s: the change %s", brief(list), brief(c))
		}
	}
	if len(found) == 0 {
		seen.none++
	}
	if lastCode(told) != impl.OK {
		if len(found) > 0 || x.Next != y.Next {
			t.Errorf("%s fails, with the changes %s", brief(list), brief(found))
		}
		return
	}
	for place, o := range list {
		table, _ := impl.TableOf(s, o.Table)
		if o.Kind != impl.OpInsert {
			continue
		}
		_, code := impl.RowAt(y, table, told[place].Id)
		changed := slices.ContainsFunc(found, func(c impl.Change) bool { return c.Table == table && c.Id == told[place].Id })
		if changed != (code == impl.OK) {
			t.Errorf("%s: row %d is there with code %d, and changed: %v", brief(list), told[place].Id, code, changed)
		}
		if code != impl.OK {
			seen.gone++
		}
	}
}

// Of transactions: from each store to the next one, from a failed one's store to the same, and from the first to the last.
func TestPromise11Transactions(t *testing.T) {
	r := rand.New(rand.NewSource(111))
	seen := txnChanges{kinds: map[int]int{}}
	for range 200 {
		s := someSchema(r)
		x, _ := impl.NewStore(s)
		first, all := x, []impl.Change{}
		for range 30 {
			list := someTxn(r, s, x)
			y, told := txnHolds(t, "changes", s, x, list, []string{"lock"})
			seen.hold(t, s, x, y, list, told)
			more, _ := impl.DiffStores(x, y)
			all = append(all, more...)
			x = y
		}
		makesAndUnmakes(t, "the first and the last", first, x)
		made, code := impl.ApplyChanges(first, all)
		if code != impl.OK || !alikeStores(withNext(made, x.Next), x) {
			t.Errorf("all changes one behind the other: %s, %d, not %s", brief(made), code, brief(x))
		}
		back, code := impl.UndoChanges(x, all)
		if code != impl.OK || !alikeStores(back, withNext(first, x.Next)) {
			t.Errorf("all changes taken back: %s, %d, not %s", brief(back), code, brief(first))
		}
	}
	if seen.kinds[1] < 1000 || seen.kinds[2] < 500 || seen.kinds[3] < 500 || seen.none < 500 || seen.gone < 100 {
		t.Errorf("kinds %v, %d without a change, %d rows came and went", seen.kinds, seen.none, seen.gone)
	}
}

// Rows that came and went in one transaction are in no change; Next alone is another one then.
func TestPromise11CameAndWent(t *testing.T) {
	s, x := impl.PlainSchema(), smallStore()
	for what, c := range map[string]struct {
		list []impl.Op
		want []impl.Change
	}{
		"inserted and deleted":             {ops(insertOp("note", "", nameSet("a")), deleteOp("note", nameIs("a")...)), nil},
		"a port that nobody holds":         {ops(portOp("a")), nil},
		"a port of a switch that goes":     {ops(portOp("a"), switchOp("u", "a"), deleteOp("switch", nameIs("new u")...)), nil},
		"one of two":                       {ops(insertOp("note", "", nameSet("a")), insertOp("note", "", nameSet("b")), deleteOp("note", nameIs("a")...)), changes(came(0, noteRow(21, "b")))},
		"changed and changed back":         {ops(updateOp("note", idIs(9), nameSet("m")), updateOp("note", idIs(9), nameSet("n"))), nil},
		"changed and deleted":              {ops(updateOp("note", idIs(9), nameSet("m")), deleteOp("note", idIs(9)...)), changes(went(0, noteRow(9, "n")))},
		"inserted and changed":             {ops(insertOp("note", "", nameSet("a")), updateOp("note", nameIs("a"), nameSet("b"))), changes(came(0, noteRow(20, "b")))},
		"deleted, and one like it came":    {ops(deleteOp("note", idIs(9)...), insertOp("note", "", nameSet("n"))), changes(went(0, noteRow(9, "n")), came(0, noteRow(20, "n")))},
		"what a switch held goes too":      {ops(deleteOp("switch", nameIs("t")...)), changes(stayed(0, noteRow(5, "n", 2, 7), noteRow(5, "n", 2)), went(1, portRow(7, "q")), went(2, switchRow(8, "t", 2, 7)))},
		"all goes":                         {ops(deleteOp("switch"), deleteOp("note")), changes(went(0, noteRow(5, "n", 2, 7)), went(0, noteRow(9, "n")), went(1, portRow(2, "p")), went(1, portRow(7, "q")), went(2, switchRow(3, "s", 2)), went(2, switchRow(8, "t", 2, 7)))},
		"inserted, but another one aborts": {ops(insertOp("note", ""), deleteOp("switch"), abortOp()), nil},
	} {
		y, _ := txnHolds(t, what, s, x, c.list, nil)
		diffIs(t, what, x, y, c.want, impl.OK)
		makesAndUnmakes(t, what, x, y)
		back, code := impl.UndoChanges(y, c.want)
		if code != impl.OK || !alikeStores(back, withNext(x, y.Next)) {
			t.Errorf("%s: UndoChanges is %s, %d", what, brief(back), code)
		}
	}
}

// someChange answers a change of a store's table, most often one that it takes.
func someChange(r *rand.Rand, x impl.Store) impl.Change {
	c := impl.Change{Table: r.Intn(len(x.Tables)), Id: 1 + r.Intn(15)}
	c.Old, _ = impl.RowAt(x, c.Table, c.Id)
	if c.Old.Id == 0 || r.Intn(3) > 0 {
		c.New = row(c.Id, someOddCells(r)...)
	}
	switch r.Intn(60) {
	case 0:
		c.Table = []int{-1, len(x.Tables), math.MaxInt}[r.Intn(3)]
	case 1:
		c.Id = r.Intn(16) - 1
	case 2:
		c.Old = row(c.Old.Id, someOddCells(r)...)
	case 3:
		c.New.Id = r.Intn(15) - 1
	case 4:
		c.Old, c.New = c.New, c.Old
	case 5:
		c.Old = impl.Row{}
	}
	return c
}

// Changes as they come, forward and back, are what the document says, with each code and without.
func TestPromise11SomeChanges(t *testing.T) {
	r := rand.New(rand.NewSource(1))
	codes, far := map[int]int{}, 0
	for range 6000 {
		x := store(r.Intn(20), nil, nil, nil)
		for table := range x.Tables {
			x.Tables[table] = someOddTable(r, 13, 15)
		}
		y, list := x, []impl.Change{}
		for range r.Intn(25) {
			c := someChange(r, y)
			list = append(list, c)
			if made, code := changedSays(y, changes(c)); code == impl.OK {
				y = made
			}
		}
		want, code := changedSays(x, list)
		appliedIs(t, brief(x)+" "+brief(list), x, list, want, code)
		codes[code]++
		if code != impl.OK && !alikeStores(want, x) {
			far++
		}
		if code == impl.OK {
			back, code := impl.UndoChanges(want, list)
			wantBack, wantCode := changedSays(want, backward(list))
			if code != wantCode || !alikeStores(back, wantBack) {
				t.Errorf("%s taken back: %s, %d, not %s, %d", brief(list), brief(back), code, brief(wantBack), wantCode)
			}
		}
	}
	for _, code := range []int{impl.OK, impl.ErrBad, impl.ErrRef, impl.ErrFull} {
		if codes[code] < 300 {
			t.Errorf("only %d lists have the code %d", codes[code], code)
		}
	}
	if far < 1000 {
		t.Errorf("only %d lists came some way ahead of a code", far)
	}
}

// handedDiff is what the calls of changes are given.
type handedDiff struct {
	A, B    impl.Store
	Changes []impl.Change
}

// diffOut is what they answer.
type diffOut struct {
	Told           []impl.Change
	Made, Back     impl.Store
	Codes          []int
	Kinds, KindsOf []int
}

func diffed(h handedDiff) diffOut {
	var out diffOut
	codes := [3]int{}
	out.Told, codes[0] = impl.DiffStores(h.A, h.B)
	out.Made, codes[1] = impl.ApplyChanges(h.A, h.Changes)
	out.Back, codes[2] = impl.UndoChanges(h.B, h.Changes)
	out.Codes = codes[:]
	for _, c := range h.Changes {
		kind, code := impl.ChangeKind(c)
		out.Kinds, out.KindsOf = append(out.Kinds, kind), append(out.KindsOf, code)
	}
	return out
}

// diffAnswers are those of all calls of changes; empty lists and nil are told alike.
func diffAnswers(h handedDiff) diffOut {
	return again(reflect.ValueOf(diffed(h)), true, 0).Interface().(diffOut)
}

func handedDiffAgain(h handedDiff, bare bool, room int) handedDiff {
	return again(reflect.ValueOf(h), bare, room).Interface().(handedDiff)
}

// allHandedDiffs are stores, right and wrong, with the changes between them, and with others.
func allHandedDiffs() []handedDiff {
	lists := [][]impl.Change{
		nil, {}, {{}}, {came(0, noteRow(30, "m", 2)), came(0, noteRow(31, "m", 2)), went(0, noteRow(30, "m", 2))}, {stayed(2, switchRow(3, "s", 2), switchRow(3, "u", 2, 7)), went(1, portRow(2, "p")), went(1, portRow(2, "p"))},
		{came(2, row(30, nil, []impl.Atom{})), {Table: 3, Id: 30, New: row(30)}}, {went(0, noteRow(5, "n", 2, 7)), came(0, noteRow(5, "n", 2, 7)), came(0, row(13, ints(0, 12)))}, longRun(50),
	}
	var all []handedDiff
	for i, x := range someStores() {
		for k, y := range someStores() {
			told, _ := impl.DiffStores(x, y)
			all = append(all, handedDiff{x, y, told}, handedDiff{x, y, lists[(i+k)%len(lists)]})
		}
	}
	return append(all, handedDiff{}, handedDiff{Changes: lists[3]})
}

func TestPromise1ChangesAlikeAnswers(t *testing.T) {
	for _, h := range allHandedDiffs() {
		first := diffAnswers(h)
		impl.ApplyChanges(smallStore(), changes(came(0, row(400)), went(1, portRow(2, "p"))))
		impl.UndoChanges(smallStore(), changes(went(0, row(400)), came(1, portRow(2, "p"))))
		impl.DiffStores(smallStore(), store(1, nil, nil, rows(row(99))))
		if second := diffAnswers(handedDiffAgain(h, false, 0)); !reflect.DeepEqual(first, second) {
			t.Errorf("%s: %s, then %s", brief(h), brief(first), brief(second))
		}
		if bare := diffAnswers(handedDiffAgain(h, true, 0)); !reflect.DeepEqual(first, bare) {
			t.Errorf("%s: %s, with nil for empty lists %s", brief(h), brief(first), brief(bare))
		}
	}
}

func TestPromise1ChangesStay(t *testing.T) {
	for _, h := range allHandedDiffs() {
		roomy := handedDiffAgain(h, false, 2)
		before := wholeOf(reflect.ValueOf(roomy))
		answers := diffAnswers(roomy)
		if after := wholeOf(reflect.ValueOf(roomy)); after != before {
			t.Fatalf("%.500s was changed: %.500s", before, after)
		}
		if tight := diffAnswers(h); !reflect.DeepEqual(answers, tight) {
			t.Errorf("%s: room changes an answer", brief(h))
		}
	}
}

// diffIsNew tells that no answer shares memory with what was given, nor two lists of one with each other.
func diffIsNew(t *testing.T, h handedDiff) {
	t.Helper()
	out := diffed(h)
	isNew(t, fmt.Sprintf("DiffStores of %s with code %d", brief(h), out.Codes[0]), out.Told, h)
	isNew(t, fmt.Sprintf("ApplyChanges of %s with code %d", brief(h), out.Codes[1]), out.Made, h)
	isNew(t, fmt.Sprintf("UndoChanges of %s with code %d", brief(h), out.Codes[2]), out.Back, h)
	isNew(t, "once more", diffed(h), out)
}

func TestPromise1ChangesAreNew(t *testing.T) {
	for _, h := range allHandedDiffs() {
		diffIsNew(t, h)
		diffIsNew(t, handedDiffAgain(h, false, 2))
	}
	r := rand.New(rand.NewSource(11))
	for range 300 {
		a, b := store(3, someOddTable(r, 8, 14), someOddTable(r, 8, 14)), store(4, someOddTable(r, 8, 14), someOddTable(r, 8, 14))
		told, _ := impl.DiffStores(a, b)
		diffIsNew(t, handedDiff{a, b, told})
		diffIsNew(t, handedDiff{a, a, append(slices.Clone(told), backward(told)...)})
	}
}

// All rows may have one list of cells, all tables one list of rows, and changes the store's own rows, in Old and in New.
func TestPromise1ChangesThatShareMemory(t *testing.T) {
	x, r := sharingStore()
	cells := r.Cells
	other := [][]impl.Atom{cells[2], cells[1], cells[0]}
	y := store(9, rows(row(2, other...), row(6, cells...)), nil, rows(row(2, cells...), row(5, other...), row(7, cells...)))
	told, code := impl.DiffStores(x, y)
	if code != impl.OK || !alike(told, diffSays(copyStore(x), copyStore(y))) {
		t.Errorf("DiffStores is %s, %d", brief(told), code)
	}
	own := changes(stayed(0, x.Tables[0][0], row(2, other...)), came(1, row(3, x.Tables[0][0].Cells...)), came(2, row(3, x.Tables[0][0].Cells...)), stayed(2, x.Tables[2][1], x.Tables[2][1]), went(1, x.Tables[1][2]))
	for _, list := range [][]impl.Change{told, own, append(slices.Clone(own), backward(own)...), diffSays(x, y)} {
		h := handedDiff{x, y, list}
		before := wholeOf(reflect.ValueOf(h))
		diffIsNew(t, h)
		want, code := changedSays(copyStore(x), list)
		appliedIs(t, "shared memory", x, list, want, code)
		if code != impl.OK || wholeOf(reflect.ValueOf(h)) != before {
			t.Errorf("%s: the code is %d, or it was changed", brief(list), code)
		}
	}
}

// What is written into an answer changes neither what was given nor the next answer.
func TestPromise1WhoWritesIntoChanges(t *testing.T) {
	x, y := smallStore(), withCell(withRow(smallStore(), 1, 2, portRow(30, "r")), 2, 1, 2, ids(7))
	told, _ := impl.DiffStores(x, y)
	h := handedDiff{x, y, told}
	want := diffAnswers(handedDiffAgain(h, false, 0))
	first := diffed(h)
	for _, c := range first.Told {
		for _, d := range slices.Concat(c.Old.Cells, c.New.Cells) {
			spoilAtoms(d)
		}
		clear(c.Old.Cells)
		clear(c.New.Cells)
	}
	for _, table := range slices.Concat(first.Made.Tables, first.Back.Tables) {
		for _, r := range table {
			for _, d := range r.Cells {
				spoilAtoms(d)
			}
			clear(r.Cells)
		}
		clear(table)
	}
	clear(first.Told)
	if second := diffAnswers(h); !reflect.DeepEqual(second, want) || !alikeStores(x, smallStore()) {
		t.Errorf("a spoilt answer changes the next one: %s, not %s", brief(second), brief(want))
	}
}

func TestPromise1ChangesAtTheSameTime(t *testing.T) {
	given := allHandedDiffs()
	var all sync.WaitGroup
	for range 8 {
		all.Go(func() {
			for _, h := range given {
				first := diffAnswers(h)
				if second := diffAnswers(h); !reflect.DeepEqual(first, second) {
					t.Errorf("%s: %s, then %s", brief(h), brief(first), brief(second))
				}
			}
		})
	}
	all.Wait()
}
