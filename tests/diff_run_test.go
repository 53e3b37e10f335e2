package tests

import (
	"fmt"
	"math"
	"slices"
	"testing"

	"loop.example/g00524/impl"
)

// A row comes with fewer than MaxRows rows; one that stays or goes does with any number.
func TestChangesOfFullTables(t *testing.T) {
	for _, count := range []int{0, 1, 11, 12, 13, 30, impl.MaxList + 1} {
		x := numbered(count)
		what := fmt.Sprintf("%d rows", count)
		for _, id := range []int{1, 5, 15, 10*count + 1} {
			r := row(id, word("new"))
			if count >= impl.MaxRows {
				appliedIs(t, what+", one comes", x, changes(came(0, r)), x, impl.ErrFull)
				continue
			}
			place := slices.IndexFunc(x.Tables[0], func(r impl.Row) bool { return r.Id > id })
			if place < 0 {
				place = count
			}
			appliedIs(t, what+", one comes", x, changes(came(0, r)), withNext(withRow(x, 0, place, r), max(5, id+1)), impl.OK)
		}
		for _, place := range []int{0, count / 2, count - 1} {
			if count == 0 {
				continue
			}
			old := x.Tables[0][place]
			r := row(old.Id, nil, word("new"))
			want := withNext(x, old.Id+1)
			want.Tables[0][place] = r
			appliedIs(t, what+", one is another", x, changes(stayed(0, old, r)), want, impl.OK)
			less, _ := impl.DropRow(x, 0, old.Id)
			appliedIs(t, what+", one goes", x, changes(went(0, old)), less, impl.OK)
			one := row(10*count+7, word("new"))
			if count <= impl.MaxRows {
				more, _ := impl.PutRow(less, 0, one)
				appliedIs(t, what+", one goes, one comes", x, changes(went(0, old), came(0, one)), withNext(more, one.Id+1), impl.OK)
			} else {
				appliedIs(t, what+", one goes, one comes", x, changes(went(0, old), came(0, one)), less, impl.ErrFull)
			}
		}
	}
}

// A full table hinders no other one, and a row that comes ahead of one that goes has no room.
func TestChangesBesideFullTables(t *testing.T) {
	full, more := numbered(12).Tables[0], numbered(13).Tables[0]
	x := store(500, full, nil, more)
	want := withRow(x, 1, 0, row(10))
	appliedIs(t, "beside full tables", x, changes(came(1, row(10))), want, impl.OK)
	appliedIs(t, "into a full one behind", x, changes(came(1, row(10)), came(0, row(7))), want, impl.ErrFull)
	appliedIs(t, "into one that is more than full", x, changes(came(2, row(7))), x, impl.ErrFull)
	appliedIs(t, "it comes ahead", x, changes(came(0, row(7)), went(0, full[3])), x, impl.ErrFull)
	less, _ := impl.DropRow(x, 0, full[3].Id)
	appliedIs(t, "it comes behind", x, changes(went(0, full[3]), came(0, row(7))), withRow(less, 0, 0, row(7)), impl.OK)
	appliedIs(t, "another one goes", x, changes(went(2, more[12]), came(0, row(7))), store(500, full, nil, more[:12]), impl.ErrFull)
	list := changes(went(0, full[3]))
	for id := 1000; id < 1003; id++ {
		list = append(list, came(0, row(id)))
	}
	appliedIs(t, "one has room, the next has not", x, list, withRow(withNext(less, 1001), 0, 11, row(1000)), impl.ErrFull)
	empty := store(1, nil)
	var comes []impl.Change
	for id := 1; id <= 13; id++ {
		comes = append(comes, came(0, row(id)))
	}
	filled := appliedIs(t, "twelve come", empty, comes[:12], store(13, rowsFrom(12)), impl.OK)
	appliedIs(t, "thirteen come", empty, comes, filled, impl.ErrFull)
}

// rowsFrom answers so many rows from 1 on, without cells.
func rowsFrom(count int) []impl.Row {
	var list []impl.Row
	for i := range count {
		list = append(list, row(i+1))
	}
	return list
}

// Next is above what is put, whether it comes or stays; it does not fall, and what goes does not move it.
func TestNextOfChanges(t *testing.T) {
	for _, id := range []int{1, 2, 7, 1000000, 1000001, math.MaxInt - 1, math.MaxInt} {
		for _, next := range []int{math.MinInt, -1, 0, 1, id - 2, id - 1, id, id/2 + 1, math.MaxInt - 1, math.MaxInt} {
			want := next
			if id != math.MaxInt && want <= id {
				want = id + 1
			}
			what := fmt.Sprintf("Next %d, Id %d", next, id)
			none, there, other := store(next, nil), store(next, rows(row(id))), store(next, rows(row(id, nil)))
			appliedIs(t, what+", it comes", none, changes(came(0, row(id))), withNext(there, want), impl.OK)
			appliedIs(t, what+", it is another one", there, changes(stayed(0, row(id), row(id, nil))), withNext(other, want), impl.OK)
			appliedIs(t, what+", it stays as it is", there, changes(stayed(0, row(id), row(id))), withNext(there, want), impl.OK)
			appliedIs(t, what+", it goes", there, changes(went(0, row(id))), none, impl.OK)
			appliedIs(t, what+", it goes and comes", there, changes(went(0, row(id)), came(0, row(id))), withNext(there, want), impl.OK)
			appliedIs(t, what+", it comes and goes", none, changes(came(0, row(id)), went(0, row(id))), withNext(none, want), impl.OK)
			appliedIs(t, what+", it is there already", there, changes(came(0, row(id))), there, impl.ErrRef)
			appliedIs(t, what+", it is not there", none, changes(stayed(0, row(id), row(id))), none, impl.ErrRef)
		}
	}
	full := withNext(numbered(12), 3)
	appliedIs(t, "no room", full, changes(came(0, row(1000))), full, impl.ErrFull)
	appliedIs(t, "a greater one ahead", store(1, nil), changes(came(0, row(9)), came(0, row(4))), store(10, rows(row(4), row(9))), impl.OK)
	appliedIs(t, "a greater one behind", store(1, nil), changes(came(0, row(4)), came(0, row(9))), store(10, rows(row(4), row(9))), impl.OK)
	appliedIs(t, "the greatest one ahead", store(1, nil), changes(came(0, row(math.MaxInt)), came(0, row(4))), store(5, rows(row(4), row(math.MaxInt))), impl.OK)
	appliedIs(t, "the greatest one but one, and the greatest", store(1, nil), changes(came(0, row(math.MaxInt-1)), came(0, row(math.MaxInt))), store(math.MaxInt, rows(row(math.MaxInt-1), row(math.MaxInt))), impl.OK)
	appliedIs(t, "rows that are not put", store(1, rows(row(50), row(60))), changes(came(0, row(4))), store(5, rows(row(4), row(50), row(60))), impl.OK)
}

// Where a change has several faults, the first one in the chapter's order counts; where several changes have one, the
// first of them.
func TestWhichCodeOfChanges(t *testing.T) {
	x := store(500, numbered(12).Tables[0], rows(row(3)))
	none, ref, full := impl.Change{Table: 0, Id: 7}, went(0, row(7)), came(0, row(7))
	appliedIs(t, "none, and Old is not there", x, changes(impl.Change{Table: 0, Id: 10, New: row(7)}), x, impl.ErrBad)
	appliedIs(t, "no table, and Old is not there", x, changes(went(2, row(7))), x, impl.ErrBad)
	appliedIs(t, "it comes, is there, and there is no room", x, changes(came(0, row(10))), x, impl.ErrRef)
	appliedIs(t, "it comes, had cells, and there is no room", x, changes(impl.Change{Id: 7, Old: row(0, nil), New: row(7)}), x, impl.ErrRef)
	all := map[int]impl.Change{impl.ErrBad: none, impl.ErrRef: ref, impl.ErrFull: full}
	fine := came(1, row(4))
	for code, c := range all {
		appliedIs(t, "one fault", x, changes(c), x, code)
		for _, later := range all {
			appliedIs(t, "a later fault", x, changes(c, later), x, code)
			appliedIs(t, "a later fault behind a right one", x, changes(fine, c, later), store(500, x.Tables[0], rows(row(3), row(4))), code)
			appliedIs(t, "a right one between", x, changes(c, fine, later), x, code)
		}
	}
}

// Beside a code stands the store as far as it came: all that is ahead, with its Next, and nothing that is behind.
func TestAsFarAsItCame(t *testing.T) {
	x := smallStore()
	list := changes(
		came(0, noteRow(40, "a")), went(0, noteRow(5, "n", 2, 7)), stayed(1, portRow(2, "p"), portRow(2, "x")), came(1, portRow(50, "r")),
		went(2, switchRow(3, "s", 2)), stayed(1, portRow(2, "x"), row(2)), went(0, noteRow(40, "a")), came(0, noteRow(5, "n")), came(2, row(41, nil)),
	)
	steps := []impl.Store{x}
	for _, c := range list {
		y, code := impl.ApplyChanges(steps[len(steps)-1], changes(c))
		if code != impl.OK {
			t.Fatalf("%s has the code %d", brief(c), code)
		}
		steps = append(steps, y)
	}
	if last := steps[len(list)]; !alikeStores(last, store(51, rows(noteRow(5, "n"), noteRow(9, "n")), rows(row(2), portRow(7, "q"), portRow(50, "r")), rows(switchRow(8, "t", 2, 7), row(41, nil)))) {
		t.Errorf("all of them: %s", brief(last))
	}
	for place := range steps {
		appliedIs(t, "the first of them", x, list[:place], steps[place], impl.OK)
		for code, c := range map[int]impl.Change{impl.ErrBad: {}, impl.ErrRef: came(0, noteRow(9, "m"))} {
			spoilt := slices.Insert(slices.Clone(list), place, c)
			appliedIs(t, fmt.Sprint("a code in place ", place), x, spoilt, steps[place], code)
		}
		back, code := impl.UndoChanges(steps[place], list[:place])
		if code != impl.OK || !alikeStores(back, withNext(x, steps[place].Next)) {
			t.Errorf("%d changes taken back: %s, %d", place, brief(back), code)
		}
	}
}

// Taken back from the last one on: as far as it came is what lies behind the change with a code.
func TestTakenBackAsFarAsItCame(t *testing.T) {
	x := store(9, rows(row(1)), nil)
	list := changes(came(1, row(2)), stayed(0, row(1), row(1, nil)), went(1, row(2)), came(0, row(6)))
	last, code := impl.ApplyChanges(x, list)
	if code != impl.OK || !alikeStores(last, store(9, rows(row(1, nil), row(6)), nil)) {
		t.Fatalf("ApplyChanges is %s, %d", brief(last), code)
	}
	for place, want := range []impl.Store{store(9, rows(row(1)), nil), store(9, rows(row(1)), rows(row(2))), store(9, rows(row(1, nil)), rows(row(2))), store(9, rows(row(1, nil)), nil), last} {
		for code, c := range map[int]impl.Change{impl.ErrBad: {Table: 2, Id: 6, New: row(6)}, impl.ErrRef: came(1, row(77))} {
			back, got := impl.UndoChanges(last, slices.Insert(slices.Clone(list), place, c))
			if got != code || !alikeStores(back, want) {
				t.Errorf("a code in place %d: %s, %d, not %s, %d", place, brief(back), got, brief(want), code)
			}
		}
	}
	full := store(900, numbered(12).Tables[0])
	gone := went(0, row(7))
	if back, code := impl.UndoChanges(full, changes(gone)); code != impl.ErrFull || !alikeStores(back, full) {
		t.Errorf("a row that went from a full table: %s, %d", brief(back), code)
	}
	back, code := impl.UndoChanges(full, changes(gone, came(0, full.Tables[0][0])))
	if code != impl.OK || len(back.Tables[0]) != 12 || back.Tables[0][0].Id != 7 || back.Tables[0][1].Id != 20 {
		t.Errorf("a row that went ahead of one that came: %s, %d", brief(back), code)
	}
}

// One change twice in a list: what it found ahead is not there any more, unless the row is as it was.
func TestChangesTwice(t *testing.T) {
	x := smallStore()
	for what, c := range map[string]impl.Change{"comes": came(0, noteRow(30, "m")), "goes": went(0, noteRow(9, "n")), "is another one": stayed(0, noteRow(9, "n"), noteRow(9, "m"))} {
		once, code := impl.ApplyChanges(x, changes(c))
		if code != impl.OK || alikeStores(once, x) {
			t.Fatalf("a row that %s: %s, %d", what, brief(once), code)
		}
		appliedIs(t, "twice a row that "+what, x, changes(c, c), once, impl.ErrRef)
		appliedIs(t, "there and back a row that "+what, x, append(changes(c), backward(changes(c))...), withNext(x, once.Next), impl.OK)
		appliedIs(t, "there, back and there a row that "+what, x, append(changes(c), append(backward(changes(c)), c)...), once, impl.OK)
		back, code := impl.UndoChanges(once, changes(c, c))
		if code != impl.ErrRef || !alikeStores(back, withNext(x, once.Next)) {
			t.Errorf("twice taken back, a row that %s: %s, %d", what, brief(back), code)
		}
	}
	same := stayed(0, noteRow(9, "n"), noteRow(9, "n"))
	appliedIs(t, "three times a row that is as it was", x, changes(same, same, same), x, impl.OK)
}

// longRun are changes of one row that is put, goes, and is put again, so many of them.
func longRun(count int) []impl.Change {
	var list []impl.Change
	for i := range count {
		list = append(list, []impl.Change{came(0, row(4)), stayed(0, row(4), row(4, ids(7))), went(0, row(4, ids(7)))}[i%3])
	}
	return list
}

func TestListsOfChanges(t *testing.T) {
	x := smallStore()
	for _, count := range []int{1, 2, 3, 100, 4094, 4095, 4096} {
		want := copyStore(x)
		switch count % 3 {
		case 1:
			want = withRow(x, 0, 0, row(4))
		case 2:
			want = withRow(x, 0, 0, row(4, ids(7)))
		}
		appliedIs(t, fmt.Sprint(count, " changes"), x, longRun(count), want, impl.OK)
	}
	wrong := withRow(x, 1, 0, portRow(7, "q"))
	for _, count := range []int{4097, 4098, 10000} {
		for _, y := range []impl.Store{x, wrong, {}, store(4, nil)} {
			appliedIs(t, fmt.Sprint(count, " changes"), y, longRun(count), impl.Store{}, impl.ErrLong)
			appliedIs(t, fmt.Sprint(count, " that are none"), y, make([]impl.Change, count), impl.Store{}, impl.ErrLong)
		}
	}
	appliedIs(t, "a code in the last of as many as may be", x, append(longRun(4095), came(7, row(4))), x, impl.ErrBad)
	appliedIs(t, "as many as may be that are none", x, make([]impl.Change, 4096), x, impl.ErrBad)
	appliedIs(t, "as many as may be, and Ids do not rise", wrong, longRun(4096), impl.Store{}, impl.ErrBad)
}

// More changes than a list may have are told, but not taken.
func TestManyChangesAreTold(t *testing.T) {
	count := impl.MaxList + 1
	a, b := numbered(count), store(5, nil)
	list, code := impl.DiffStores(a, b)
	if code != impl.OK || len(list) != count || list[count-1].Id != 10*count || list[0].Id != 10 {
		t.Fatalf("%d changes, %d", len(list), code)
	}
	appliedIs(t, "one too many", a, list, impl.Store{}, impl.ErrLong)
	appliedIs(t, "all but one", a, list[:impl.MaxList], store(5, a.Tables[0][impl.MaxList:]), impl.OK)
}
