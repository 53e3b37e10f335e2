package tests

import (
	"fmt"
	"math"
	"math/rand"
	"reflect"
	"slices"
	"sync"
	"testing"

	"loop.example/g00524/impl"
)

// othersStay tells that all rows of a store but one are found in another one as they were.
func othersStay(t *testing.T, what string, x, made impl.Store, table, id int) {
	t.Helper()
	if len(made.Tables) != len(x.Tables) || made.Next != x.Next {
		t.Errorf("%s: %d tables and Next %d are %d and %d", what, len(x.Tables), x.Next, len(made.Tables), made.Next)
	}
	for i := range x.Tables {
		for _, r := range x.Tables[i] {
			if i != table || r.Id != id {
				found(t, what, made, i, r.Id, r, impl.OK)
			}
		}
	}
}

// rowsOf answers how many rows a store has.
func rowsOf(x impl.Store) int {
	count := 0
	for i := range x.Tables {
		count += len(x.Tables[i])
	}
	return count
}

// oddRows are rows of a number, of which none need be right.
func oddRows(id int) []impl.Row {
	return []impl.Row{
		{Id: id}, row(id, nil), row(id, []impl.Atom{}, nil), noteRow(id, "new", 2, 7), portRow(id, "new"), switchRow(id, "", 2), kindsRow(id),
		row(id, ints(0, 9), atoms(impl.Atom{}), rightSets()[11], ids(0, -1, math.MaxInt)), row(id, make([][]impl.Atom, 20)...),
	}
}

func TestPromise6WhatIsPutIsFound(t *testing.T) {
	x := smallStore()
	for table := range x.Tables {
		for _, id := range []int{math.MinInt, -1, 0, 1, 2, 3, 4, 5, 6, 7, 8, 9, 10, 19, 20, 1000001, math.MaxInt} {
			_, before := impl.RowAt(x, table, id)
			for _, r := range oddRows(id) {
				made, code := impl.PutRow(x, table, r)
				what := fmt.Sprintf("PutRow(%d, %s)", table, brief(r))
				if code != impl.OK {
					t.Fatalf("%s has the code %d", what, code)
				}
				found(t, what, made, table, id, r, impl.OK)
				othersStay(t, what, x, made, table, id)
				if more := rowsOf(made) - rowsOf(x); (before == impl.OK) != (more == 0) || more < 0 || more > 1 {
					t.Errorf("%s makes %d rows more", what, more)
				}
				for i := 1; i < len(made.Tables[table]); i++ {
					if made.Tables[table][i-1].Id >= made.Tables[table][i].Id {
						t.Errorf("%s does not keep the order: %s", what, brief(made))
					}
				}
			}
		}
	}
}

func TestPromise6WhatIsDroppedIsNot(t *testing.T) {
	x := smallStore()
	for table := range x.Tables {
		for _, r := range x.Tables[table] {
			made, code := impl.DropRow(x, table, r.Id)
			what := fmt.Sprintf("DropRow(%d, %d)", table, r.Id)
			if code != impl.OK || rowsOf(made) != rowsOf(x)-1 {
				t.Fatalf("%s is %s, %d", what, brief(made), code)
			}
			found(t, what, made, table, r.Id, impl.Row{}, impl.ErrNone)
			othersStay(t, what, x, made, table, r.Id)
			drop(t, what+" again", made, table, r.Id, made, impl.ErrNone)
			put(t, what+", then put", made, table, r, x, impl.OK)
		}
	}
}

// A new row that is put and dropped leaves all as it was.
func TestPromise6PutAndDropped(t *testing.T) {
	x := smallStore()
	for table := range x.Tables {
		for _, id := range []int{math.MinInt, 0, 1, 4, 6, 10, math.MaxInt} {
			for _, r := range oddRows(id) {
				made, _ := impl.PutRow(x, table, r)
				drop(t, "a row that was put", made, table, id, x, impl.OK)
			}
		}
	}
}

// Numbers are put, and dropped, in all orders.
func TestPromise6AllOrders(t *testing.T) {
	want := store(7, nil, rows(row(1, ids(1)), row(2, ids(2)), row(3, ids(3)), row(4, ids(4)), row(5, ids(5))))
	eachOrder(ids(1, 2, 3, 4, 5), func(list []impl.Atom) {
		x := store(7, nil, nil)
		for _, a := range list {
			x, _ = impl.PutRow(x, 1, row(a.N, ids(a.N)))
		}
		if !alikeStores(x, want) {
			t.Errorf("put as %v: %s", list, brief(x))
		}
		for i, a := range list {
			x, _ = impl.DropRow(x, 1, a.N)
			for k, b := range list {
				if _, code := impl.RowAt(x, 1, b.N); (code == impl.OK) != (k > i) {
					t.Errorf("dropped as %v: behind %d row %d has the code %d", list, a.N, b.N, code)
				}
			}
		}
		if !alikeStores(x, store(7, nil, nil)) {
			t.Errorf("dropped as %v: %s", list, brief(x))
		}
	})
}

// Rows are put and dropped as they come; a map of them says what must be found.
func TestPromise6SomeRows(t *testing.T) {
	r := rand.New(rand.NewSource(6))
	type place struct{ table, id int }
	full := 0
	for range 60 {
		x, there := store(r.Intn(99), nil, nil, nil), map[place]impl.Row{}
		counts := [3]int{}
		for range 120 {
			at := place{r.Intn(3), r.Intn(20)}
			old, was := there[at]
			if r.Intn(3) > 0 {
				put := row(at.id, ids(r.Intn(9)), ints(0, r.Intn(3)))
				y, code := impl.PutRow(x, at.table, put)
				if !was && counts[at.table] == impl.MaxRows {
					full++
					if code != impl.ErrFull || !alikeStores(x, y) {
						t.Fatalf("PutRow into a full table is %s, %d", brief(y), code)
					}
				} else if code != impl.OK {
					t.Fatalf("PutRow has the code %d", code)
				} else {
					there[at] = put
					counts[at.table] += map[bool]int{true: 0, false: 1}[was]
				}
				x = y
			} else {
				y, code := impl.DropRow(x, at.table, at.id)
				if was != (code == impl.OK) || !was && (code != impl.ErrNone || !alikeStores(x, y)) {
					t.Fatalf("DropRow of %v is %s, %d", old, brief(y), code)
				}
				if was {
					delete(there, at)
					counts[at.table]--
				}
				x = y
			}
		}
		if rowsOf(x) != len(there) {
			t.Errorf("%d rows, not %d", rowsOf(x), len(there))
		}
		for table := range 3 {
			for id := range 20 {
				if want, is := there[place{table, id}]; is {
					found(t, "some rows", x, table, id, want, impl.OK)
				} else {
					found(t, "some rows", x, table, id, impl.Row{}, impl.ErrNone)
				}
			}
		}
	}
	if full == 0 {
		t.Error("no table was full")
	}
}

// fitsSays is what chapter 6 of the document says of a store that fits a right schema, told once more.
func fitsSays(s impl.Schema, x impl.Store) bool {
	if len(x.Tables) != len(s.Tables) || x.Next < 1 || x.Next > 1000000 {
		return false
	}
	for i, list := range x.Tables {
		if len(list) > 12 {
			return false
		}
		last := 0
		for _, r := range list {
			if r.Id <= last || r.Id >= x.Next || len(r.Cells) != len(s.Tables[i].Columns) {
				return false
			}
			last = r.Id
			for k, c := range s.Tables[i].Columns {
				if fit, code := impl.Fits(c, r.Cells[k]); fit != impl.OK || code != impl.OK {
					return false
				}
			}
		}
	}
	return true
}

type holder struct {
	table string
	id    int
}

// holdersOf answers, of each row that a store refers to, how many sets hold it, and how many refer to it.
func holdersOf(s impl.Schema, x impl.Store) (held, named map[holder]int) {
	held, named = map[holder]int{}, map[holder]int{}
	for i, list := range x.Tables {
		for _, r := range list {
			for k, d := range r.Cells {
				c := s.Tables[i].Columns[k]
				for _, a := range d {
					if a.Kind == impl.AtUuid && c.Strong {
						held[holder{c.Ref, a.N}]++
					}
					if a.Kind == impl.AtUuid {
						named[holder{c.Ref, a.N}]++
					}
				}
			}
		}
	}
	return held, named
}

// rightSays is what the document says of a store that fits and is right.
func rightSays(s impl.Schema, x impl.Store) bool {
	held, named := holdersOf(s, x)
	numbers, alike := map[int]int{}, map[string]int{}
	for i, list := range x.Tables {
		for _, r := range list {
			numbers[r.Id]++
			delete(named, holder{s.Tables[i].Name, r.Id})
			if !s.Tables[i].Root && held[holder{s.Tables[i].Name, r.Id}] == 0 {
				return false
			}
			key := fmt.Sprint(i)
			for _, k := range s.Tables[i].Unique {
				key += fmt.Sprintf("|%+q", fmt.Sprintf("%+v", r.Cells[k]))
			}
			if alike[key]++; len(s.Tables[i].Unique) > 0 && alike[key] > 1 {
				return false
			}
		}
	}
	for _, count := range numbers {
		if count > 1 {
			return false
		}
	}
	return len(named) == 0
}

// someSchema answers a right schema of few small tables, which refer to each other.
func someSchema(r *rand.Rand) impl.Schema {
	names := []string{"a", "b", "c", "d"}[:1+r.Intn(4)]
	var s impl.Schema
	for _, name := range names {
		x := impl.Table{Name: name, Root: r.Intn(3) > 0}
		for k := range 1 + r.Intn(3) {
			c := []impl.Column{intColumn(r.Intn(2), 2, 0, 2), boolColumn(0, 2), refColumn(3, names[r.Intn(len(names))], true), refColumn(3, names[r.Intn(len(names))], r.Intn(2) == 0)}[r.Intn(4)]
			x.Columns = append(x.Columns, called(c, "c"+fmt.Sprint(k)))
			if r.Intn(4) == 0 {
				x.Unique = append(x.Unique, k)
			}
		}
		s.Tables = append(s.Tables, x)
	}
	return s
}

// someStore answers a store of a schema that fits it, and is right more often than chance would have it.
func someStore(r *rand.Rand, s impl.Schema) impl.Store {
	x := impl.Store{Tables: make([][]impl.Row, len(s.Tables)), Next: 12}
	of := map[string][]int{}
	for id := 1; id < 12; id++ {
		if i := r.Intn(len(s.Tables) + 4); i < len(s.Tables) {
			x.Tables[i] = append(x.Tables[i], impl.Row{Id: id})
			of[s.Tables[i].Name] = append(of[s.Tables[i].Name], id)
		}
	}
	for i, list := range x.Tables {
		for k := range list {
			for _, c := range s.Tables[i].Columns {
				list[k].Cells = append(list[k].Cells, someCell(r, c, of[c.Ref]))
			}
		}
	}
	return x
}

func someCell(r *rand.Rand, c impl.Column, there []int) []impl.Atom {
	var list []impl.Atom
	for range c.Min + r.Intn(c.Max+1-c.Min) {
		switch {
		case c.Kind == impl.AtInt:
			list = append(list, intAtom(r.Intn(3)))
		case c.Kind == impl.AtBool:
			list = append(list, boolAtom(r.Intn(2)))
		case len(there) > 0:
			list = append(list, idAtom(there[r.Intn(len(there))]))
		}
	}
	return sortedOnce(list)
}

// spoiltStore answers a store that is another one in one thing.
func spoiltStore(r *rand.Rand, x impl.Store) impl.Store {
	made := copyStore(x)
	table := r.Intn(len(made.Tables))
	list := made.Tables[table]
	switch kind := r.Intn(9); {
	case kind == 0:
		made.Next = r.Intn(13)
	case kind == 1:
		made.Tables = made.Tables[:table]
	case len(list) == 0:
	case kind == 2:
		list[r.Intn(len(list))].Id = r.Intn(14)
	case kind == 3:
		list[0].Cells = list[0].Cells[:r.Intn(len(list[0].Cells)+1)]
	case kind == 4:
		at := r.Intn(len(list))
		made.Tables[table] = slices.Delete(list, at, at+1)
	case kind == 5:
		made.Tables[table] = append(list, copyRow(list[len(list)-1]))
		made.Tables[table][len(list)].Id = 11
	default:
		cells := list[r.Intn(len(list))].Cells
		cells[r.Intn(len(cells))] = []([]impl.Atom){nil, ids(r.Intn(12)), ids(1+r.Intn(5), 6+r.Intn(6)), ints(0, r.Intn(4)), atoms(boolAtom(1))}[r.Intn(5)]
	}
	return made
}

// oracleSays tells whether StoreOK and StrongCount are as the document says, and which of three kinds a store is.
func oracleSays(t *testing.T, s impl.Schema, x impl.Store) int {
	t.Helper()
	fit := fitsSays(s, x)
	right := fit && rightSays(s, x)
	what := brief(s) + " " + brief(x)
	storeIs(t, what, s, x, fit, right)
	if !fit {
		return 0
	}
	held, _ := holdersOf(s, x)
	for i := range x.Tables {
		for id := range 14 {
			want, code := held[holder{s.Tables[i].Name, id}], impl.OK
			if !slices.ContainsFunc(x.Tables[i], func(r impl.Row) bool { return r.Id == id }) {
				want, code = 0, impl.ErrNone
			}
			countIs(t, what, s, x, i, id, want, code)
		}
	}
	if right {
		return 2
	}
	return 1
}

func TestPromise6SomeStoresAreRight(t *testing.T) {
	r := rand.New(rand.NewSource(66))
	var kinds [3]int
	for range 4000 {
		s := someSchema(r)
		if !impl.SchemaOK(s) {
			t.Fatalf("the schema %s is not right", brief(s))
		}
		x := someStore(r, s)
		kinds[oracleSays(t, s, x)]++
		for range 3 {
			kinds[oracleSays(t, s, spoiltStore(r, x))]++
		}
	}
	for kind, count := range kinds {
		if count < 1000 {
			t.Errorf("%d stores are of kind %d", count, kind)
		}
	}
}

// Into a new store rows that must be held are put ahead of their holders: it is right from when all of them are held.
func TestPromise6RightWhenAllAreHeld(t *testing.T) {
	s := impl.PlainSchema()
	x, _ := impl.NewStore(s)
	x.Next = 100
	for i := range impl.MaxRows {
		x, _ = impl.PutRow(x, 1, portRow(10+i, fmt.Sprint("p", i)))
		storeIs(t, "ports that nobody holds", s, x, true, false)
	}
	for i := range impl.MaxRows {
		ports := []int{10 + i, 21}
		if i == 11 {
			ports = []int{21}
		}
		x, _ = impl.PutRow(x, 2, switchRow(30+i, fmt.Sprint("s", i), ports...))
		storeIs(t, "ports some of which nobody holds", s, x, true, i >= 10)
	}
	for i := range impl.MaxRows {
		x, _ = impl.PutRow(x, 0, noteRow(50+i, "n", 10, 10+max(1, i)))
		storeIs(t, "notes", s, x, true, true)
	}
	for i := range impl.MaxRows {
		less, _ := impl.DropRow(x, 1, 10+i)
		storeIs(t, "a port that others refer to is gone", s, less, true, false)
		less, _ = impl.DropRow(x, 2, 30+i)
		storeIs(t, "a switch is gone", s, less, true, i == 11)
		less, _ = impl.DropRow(x, 0, 50+i)
		storeIs(t, "a note is gone", s, less, true, true)
	}
}

// storeAnswers are those of all calls that take stores and rows; empty lists and nil are told alike.
func storeAnswers(s impl.Schema, x, y impl.Store, r impl.Row) []any {
	made, code := impl.NewStore(s)
	all := []any{copyStore(made), code, impl.StoreOK(s, x), impl.StoreOK(s, y), impl.SameStore(x, y), impl.SameStore(y, x), impl.SameStore(x, x)}
	for _, table := range s.Tables {
		all = append(all, impl.RowOK(table, r))
	}
	for table := -1; table <= min(len(x.Tables), 5); table++ {
		for _, id := range []int{0, 2, 5, r.Id} {
			got, code := impl.RowAt(x, table, id)
			less, lessCode := impl.DropRow(x, table, id)
			count, countCode := impl.StrongCount(s, x, table, id)
			all = append(all, copyRow(got), code, copyStore(less), lessCode, count, countCode)
		}
		more, code := impl.PutRow(x, table, r)
		all = append(all, copyStore(more), code)
	}
	return all
}

// someStores are right ones and wrong ones.
func someStores() []impl.Store {
	x := smallStore()
	return []impl.Store{
		{}, {Next: 1}, store(1, nil, nil, nil), store(1, rows(), nil, nil), x, numbered(12), numbered(13), withNext(x, 0), withNext(x, 5),
		withRow(x, 0, 1, noteRow(2, "n")), withRow(x, 0, 0, noteRow(9, "n")), withRow(x, 2, 2, switchRow(11, "s")), withRow(x, 1, 2, portRow(11, "r")),
		withCell(x, 2, 0, 2, ids(2, 8)), withCell(x, 2, 0, 1, nil), withCell(x, 2, 0, 1, atoms(impl.Atom{})), withCell(x, 0, 0, 1, ids(1000000)),
		store(20, x.Tables[0]), store(20, append(copyStore(x).Tables, rows(impl.Row{}))...), store(20, rows(impl.Row{Id: 5}), x.Tables[1], x.Tables[2]),
	}
}

func someHandedRows() []impl.Row {
	return []impl.Row{{}, noteRow(5, "m", 2), noteRow(6, "m"), portRow(2, "p"), portRow(4, "p"), switchRow(3, "u", 2, 7), row(20, ints(0, 9)), row(130, nil, []impl.Atom{})}
}

func TestPromise1StoresAlikeAnswers(t *testing.T) {
	for _, s := range []impl.Schema{impl.PlainSchema(), heldSchema(), {}} {
		for _, x := range someStores() {
			for _, r := range someHandedRows() {
				first := storeAnswers(s, x, smallStore(), r)
				impl.PutRow(numbered(3), 0, row(15, ids(1)))
				impl.DropRow(numbered(3), 0, 20)
				impl.StrongCount(heldSchema(), store(9, nil, nil, rows(row(1, ids(1), nil))), 2, 1)
				second := storeAnswers(copySchema(s), copyStore(x), copyStore(smallStore()), copyRow(r))
				if !reflect.DeepEqual(first, second) {
					t.Errorf("%s and %s: %s, then %s", brief(x), brief(r), brief(first), brief(second))
				}
			}
		}
	}
}

// roomyRow answers a row that is alike and shares nothing, its lists with room behind their ends where something stands.
func roomyRow(r impl.Row) impl.Row {
	cells := [][]impl.Atom{}
	for _, d := range r.Cells {
		cells = append(cells, withRoom(d))
	}
	return impl.Row{Id: r.Id, Cells: append(cells, word("behind"), ids(2))[:len(cells)]}
}

func roomyStore(x impl.Store) impl.Store {
	tables := [][]impl.Row{}
	for _, list := range x.Tables {
		made := []impl.Row{}
		for _, r := range list {
			made = append(made, roomyRow(r))
		}
		tables = append(tables, append(made, noteRow(1, "behind"), portRow(0, "behind"))[:len(made)])
	}
	return impl.Store{Tables: append(tables, rows(noteRow(77, "behind")), nil)[:len(tables)], Next: x.Next}
}

// wholeRow answers a copy of a row with all that stands behind its lists' ends.
func wholeRow(r impl.Row) impl.Row {
	cells := [][]impl.Atom{}
	for _, d := range r.Cells[:cap(r.Cells)] {
		cells = append(cells, append(atoms(), d[:cap(d)]...))
	}
	return impl.Row{Id: r.Id, Cells: cells}
}

func wholeStore(x impl.Store) impl.Store {
	tables := [][]impl.Row{}
	for _, list := range x.Tables[:cap(x.Tables)] {
		made := []impl.Row{}
		for _, r := range list[:cap(list)] {
			made = append(made, wholeRow(r))
		}
		tables = append(tables, made)
	}
	return impl.Store{Tables: tables, Next: x.Next}
}

func TestPromise1StoresStay(t *testing.T) {
	s := copySchema(impl.PlainSchema())
	before := kept(s)
	for _, x := range someStores() {
		for _, r := range someHandedRows() {
			roomyX, roomyY, roomyR := roomyStore(x), roomyStore(smallStore()), roomyRow(r)
			wholeX, wholeY, wholeR := wholeStore(roomyX), wholeStore(roomyY), wholeRow(roomyR)
			roomy := storeAnswers(s, roomyX, roomyY, roomyR)
			if !reflect.DeepEqual(wholeStore(roomyX), wholeX) || !reflect.DeepEqual(wholeStore(roomyY), wholeY) || !reflect.DeepEqual(wholeRow(roomyR), wholeR) {
				t.Fatalf("%s or %s was changed", brief(x), brief(r))
			}
			if tight := storeAnswers(s, x, smallStore(), r); !reflect.DeepEqual(roomy, tight) {
				t.Errorf("%s and %s: room changes an answer", brief(x), brief(r))
			}
		}
	}
	if !reflect.DeepEqual(behind(s), before) {
		t.Error("the schema was changed")
	}
}

func TestPromise1EmptyListsOfStoresAreNil(t *testing.T) {
	for _, x := range someStores() {
		bare, empty := copyStore(x), copyStore(x)
		for i := range bare.Tables {
			for k := range bare.Tables[i] {
				for n, d := range bare.Tables[i][k].Cells {
					if len(d) == 0 {
						bare.Tables[i][k].Cells[n] = nil
					}
				}
				if len(bare.Tables[i][k].Cells) == 0 {
					bare.Tables[i][k].Cells = nil
				}
			}
			if len(bare.Tables[i]) == 0 {
				bare.Tables[i] = nil
			}
		}
		if len(bare.Tables) == 0 {
			bare.Tables = nil
		}
		for _, r := range []impl.Row{{Id: 5}, row(5, nil, word("a"))} {
			if !reflect.DeepEqual(storeAnswers(impl.PlainSchema(), bare, empty, r), storeAnswers(impl.PlainSchema(), empty, bare, copyRow(r))) {
				t.Errorf("empty lists of %s are not as nil", brief(x))
			}
		}
	}
}

// span is the memory of a list, up to where its room ends.
type span struct{ begin, end uintptr }

// spansOf answers the memory of all lists of a value.
func spansOf(v reflect.Value) []span {
	var all []span
	switch v.Kind() {
	case reflect.Struct:
		for i := range v.NumField() {
			all = append(all, spansOf(v.Field(i))...)
		}
	case reflect.Slice:
		if v.Cap() > 0 {
			all = append(all, span{v.Pointer(), v.Pointer() + uintptr(v.Cap())*v.Type().Elem().Size()})
		}
		for i := range v.Len() {
			all = append(all, spansOf(v.Index(i))...)
		}
	}
	return all
}

// isNew tells that no two lists of an answer share memory, nor one of it and one of what was handed in.
func isNew(t *testing.T, what string, answer any, given ...any) {
	t.Helper()
	others := []span{}
	for _, v := range given {
		others = append(others, spansOf(reflect.ValueOf(v))...)
	}
	for _, a := range spansOf(reflect.ValueOf(answer)) {
		for _, b := range others {
			if a.begin < b.end && b.begin < a.end {
				t.Errorf("%s shares memory", what)
				return
			}
		}
		others = append(others, a)
	}
}

// allAreNew tells it of all answers that have lists.
func allAreNew(t *testing.T, s impl.Schema, x impl.Store, r impl.Row) {
	t.Helper()
	fresh, _ := impl.NewStore(s)
	isNew(t, "NewStore", fresh, s)
	for table := -1; table <= len(x.Tables); table++ {
		for _, id := range []int{0, 1, 2, 5, 7, 9, r.Id} {
			got, code := impl.RowAt(x, table, id)
			isNew(t, fmt.Sprintf("RowAt(%d, %d) with code %d", table, id, code), got, x)
			less, code := impl.DropRow(x, table, id)
			isNew(t, fmt.Sprintf("DropRow(%d, %d) with code %d", table, id, code), less, x)
			again, code := impl.RowAt(less, table, id)
			isNew(t, fmt.Sprintf("RowAt(%d, %d) behind DropRow with code %d", table, id, code), again, less, got)
			for _, put := range []impl.Row{r, row(id, r.Cells...), got} {
				more, code := impl.PutRow(x, table, put)
				isNew(t, fmt.Sprintf("PutRow(%d, %d) with code %d", table, put.Id, code), more, x, put)
			}
		}
	}
}

// sharingStore has one list of cells in all rows of its tables, one list of rows in two of them, and one set in all cells.
func sharingStore() (impl.Store, impl.Row) {
	d := withRoom(ids(2, 7))
	cells := [][]impl.Atom{d, d, d[:1]}
	list := rows(row(2, cells...), row(5, cells...), row(7, cells[:2]...))
	return store(9, list, list, list[:2]), row(5, cells...)
}

func TestPromise1StoresAreNew(t *testing.T) {
	for _, x := range append(someStores(), roomyStore(smallStore()), store(9, numbered(12).Tables[0], numbered(14).Tables[0])) {
		for _, r := range someHandedRows() {
			allAreNew(t, impl.PlainSchema(), x, r)
		}
	}
	x, r := sharingStore()
	allAreNew(t, heldSchema(), x, r)
	for _, own := range x.Tables[0] {
		allAreNew(t, heldSchema(), x, own)
	}
	full := store(9, slices.Repeat(rows(row(1, ids(1))), 12))
	for i := range full.Tables[0] {
		full.Tables[0][i].Id = i
	}
	allAreNew(t, heldSchema(), full, row(20, full.Tables[0][0].Cells...))
}

// What is written into an answer is not in the store that it was made of, nor is what is written into the row in the answer.
func TestPromise1WhoWritesIntoARow(t *testing.T) {
	x, r := smallStore(), noteRow(5, "new", 2)
	made, _ := impl.PutRow(x, 0, r)
	r.Cells[0][0].T = "spoilt"
	r.Cells[1] = nil
	found(t, "a spoilt row", made, 0, 5, noteRow(5, "new", 2), impl.OK)
	made.Tables[0][1].Cells[0][0].T = "spoilt"
	made.Tables[2][0].Cells[2][0].N = 7
	made.Tables[1] = nil
	found(t, "a spoilt store", x, 0, 9, noteRow(9, "n"), impl.OK)
	if !alikeStores(x, smallStore()) {
		t.Errorf("a spoilt answer spoils the store: %s", brief(x))
	}
	got, _ := impl.RowAt(x, 2, 8)
	got.Cells[2][0].N = 7
	got.Cells[0] = nil
	for _, table := range []int{0, 2} {
		same, _ := impl.DropRow(x, table, 1)
		same.Tables[0][0].Cells[1][1].N = 9
		same.Tables[2][0].Id = 1
	}
	if !alikeStores(x, smallStore()) {
		t.Errorf("a spoilt answer spoils the store: %s", brief(x))
	}
}

func TestPromise1StoresAtTheSameTime(t *testing.T) {
	stores := someStores()
	var all sync.WaitGroup
	for range 8 {
		all.Go(func() {
			for _, x := range stores {
				first := storeAnswers(impl.PlainSchema(), x, stores[4], noteRow(6, "m", 2))
				if second := storeAnswers(impl.PlainSchema(), x, stores[4], noteRow(6, "m", 2)); !reflect.DeepEqual(first, second) {
					t.Errorf("%s: %s, then %s", brief(x), brief(first), brief(second))
				}
			}
		})
	}
	all.Wait()
}
