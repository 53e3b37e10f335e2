package tests

import (
	"fmt"
	"math/rand"
	"reflect"
	"slices"
	"strings"
	"sync"
	"testing"

	"loop.example/g00524/impl"
)

// matchSays is what chapter 7 of the document says of a set and a condition that has no code, told once more.
func matchSays(cell []impl.Atom, c impl.Cond) bool {
	there := map[impl.Atom]bool{}
	for _, a := range cell {
		there[a] = true
	}
	common := 0
	for _, a := range c.Value {
		if there[a] {
			common++
		}
	}
	alike := common == len(cell) && common == len(c.Value)
	switch c.Func {
	case 1:
		return alike
	case 2:
		return !alike
	case 7:
		return common == len(c.Value)
	case 8:
		return common == 0
	}
	if len(cell) == 0 {
		return false
	}
	less, greater := cell[0].N < c.Value[0].N, cell[0].N > c.Value[0].N
	return map[int]bool{3: less, 4: !greater, 5: greater, 6: !less}[c.Func]
}

// askedSays is what the document says of a name: the kind, how many atoms there may be at most, and the cell of a row.
func askedSays(x impl.Table, r impl.Row, name string) (kind, most int, cell []impl.Atom) {
	if name == "_uuid" {
		kind, most, cell = impl.AtUuid, 1, ids(r.Id)
	}
	for i, c := range x.Columns {
		if c.Name == name {
			kind, most, cell = c.Kind, c.Max, nil
			if len(r.Cells) > i {
				cell = r.Cells[i]
			}
		}
	}
	return kind, most, cell
}

// codeSays is what the document says of the code of a right condition.
func codeSays(x impl.Table, c impl.Cond) int {
	kind, most, _ := askedSays(x, impl.Row{}, c.Column)
	if kind == 0 {
		return impl.ErrColumn
	}
	for _, a := range c.Value {
		if a.Kind != kind {
			return impl.ErrType
		}
	}
	if strings.ContainsAny(impl.FuncWord(c.Func), "<>") && (kind != impl.AtInt || most != 1 || len(c.Value) != 1) {
		return impl.ErrType
	}
	return impl.OK
}

// choiceHolds tells that the rows of a table that are chosen match, and no others, by MatchesAll and by the document's words.
// It answers how many are chosen and how many are not, and the code.
func choiceHolds(t *testing.T, s impl.Schema, x impl.Store, table int, list []impl.Cond) (yes, no, code int) {
	t.Helper()
	wantCode := impl.OK
	for _, c := range slices.Backward(list) {
		if own := codeSays(s.Tables[table], c); own != impl.OK {
			wantCode = own
		}
	}
	chosen, code := impl.SelectIds(s, x, table, list)
	if code != wantCode || code != impl.OK && len(chosen) != 0 {
		t.Errorf("SelectIds of table %d and %s is %v, %d, not with %d", table, brief(list), chosen, code, wantCode)
	}
	for i := 1; i < len(chosen); i++ {
		if chosen[i-1] >= chosen[i] {
			t.Errorf("the Ids %v do not rise", chosen)
		}
	}
	for _, r := range x.Tables[table] {
		want := code == impl.OK
		for _, c := range list {
			if code == impl.OK {
				_, _, cell := askedSays(s.Tables[table], r, c.Column)
				want = want && matchSays(cell, c)
			}
		}
		matches, matchCode := impl.MatchesAll(s.Tables[table], r, list)
		if matches != want || matchCode != wantCode || slices.Contains(chosen, r.Id) != want {
			t.Errorf("%s and %s: MatchesAll is %v, %d, not %v, %d; chosen are %v", brief(r), brief(list), matches, matchCode, want, wantCode, chosen)
		}
		if want {
			yes++
		} else {
			no++
		}
	}
	if yes != len(chosen) {
		t.Errorf("%s: %v are chosen, not %d", brief(list), chosen, yes)
	}
	return yes, no, code
}

// eachSubset answers all sets of some atoms, the empty one first.
func eachSubset(some []impl.Atom) [][]impl.Atom {
	var all [][]impl.Atom
	for bits := range 1 << len(some) {
		all = append(all, subset(some, bits))
	}
	return all
}

// All cells of few atoms, all Values of them and all functions, one condition at a time.
func TestPromise7AllSetsOfFewAtoms(t *testing.T) {
	few := map[string][]impl.Atom{
		"one": ints(-1, 2), "must": ints(-1, 2), "many": ints(-1, 2), "text": atoms(textAtom(""), textAtom("a"), textAtom("b")), "bool": atoms(boolAtom(0), boolAtom(1)), "ref": ids(1, 2, 3),
	}
	s := schema(askedTable())
	for column, some := range few {
		x := store(13, nil)
		for i, cell := range eachSubset(some) {
			if r := askedRow(i+1, column, cell...); impl.RowOK(s.Tables[0], r) {
				x.Tables[0] = append(x.Tables[0], r)
			}
		}
		if len(x.Tables[0]) < 3 {
			t.Fatalf("%s has %d rows", column, len(x.Tables[0]))
		}
		for _, value := range append(eachSubset(some), ids(1, 2), ids(9), ints(5, 6), word("~")) {
			for function := 1; function <= 8; function++ {
				for _, asked := range []string{column, "_uuid", "none"} {
					choiceHolds(t, s, x, 0, conds(cond(asked, function, value...)))
				}
			}
		}
	}
}

// someAskedTable answers a right table of few columns, now and then one that is called as the Id is.
func someAskedTable(r *rand.Rand, name string) impl.Table {
	x := impl.Table{Name: name, Root: true}
	for k := range 1 + r.Intn(5) {
		least := r.Intn(2)
		c := []impl.Column{intColumn(least, 1, 0, 3), intColumn(least, 1, -2, 2), intColumn(least, 3, 0, 3), textColumn(least, 2), boolColumn(least, 2), refColumn(3, "a", false)}[r.Intn(6)]
		x.Columns = append(x.Columns, called(c, "c"+fmt.Sprint(k)))
	}
	if r.Intn(4) == 0 {
		x.Columns[r.Intn(len(x.Columns))].Name = "_uuid"
	}
	return x
}

// someSet answers a set of few atoms of a kind.
func someSet(r *rand.Rand, kind, least, most int) []impl.Atom {
	var list []impl.Atom
	for range least + r.Intn(most+1-least) {
		list = append(list, []impl.Atom{intAtom(r.Intn(3)), textAtom([]string{"", "a", "ab"}[r.Intn(3)]), boolAtom(r.Intn(2)), idAtom(1 + r.Intn(9))}[kind-1])
	}
	return sortedOnce(list)
}

// someAskedStore answers a store that fits, whoever refers to whom.
func someAskedStore(r *rand.Rand, s impl.Schema) impl.Store {
	x := impl.Store{Tables: make([][]impl.Row, len(s.Tables)), Next: 20}
	for i, table := range s.Tables {
		for id := 1; id < 20 && len(x.Tables[i]) < 12; id++ {
			if r.Intn(3) == 0 {
				continue
			}
			made := impl.Row{Id: id}
			for _, c := range table.Columns {
				made.Cells = append(made.Cells, someSet(r, c.Kind, c.Min, c.Max))
			}
			x.Tables[i] = append(x.Tables[i], made)
		}
	}
	return x
}

// someCond answers a right condition, mostly one that has no code.
func someCond(r *rand.Rand, x impl.Table) impl.Cond {
	names := []string{"_uuid", "none"}
	for _, c := range x.Columns {
		names = append(names, c.Name, c.Name, c.Name, c.Name)
	}
	name, function := names[r.Intn(len(names))], 1+r.Intn(8)
	kind, _, _ := askedSays(x, impl.Row{}, name)
	if kind == 0 || r.Intn(30) == 0 {
		kind = 1 + r.Intn(4)
	}
	if orders(function) {
		return cond(name, function, someSet(r, kind, 1, 1)...)
	}
	return cond(name, function, someSet(r, kind, 0, 3)...)
}

func TestPromise7SomeChoices(t *testing.T) {
	r := rand.New(rand.NewSource(7))
	yes, no, codes := 0, 0, map[int]int{}
	for range 600 {
		s := schema(someAskedTable(r, "a"), someAskedTable(r, "b"))
		x := someAskedStore(r, s)
		if !impl.SchemaOK(s) {
			t.Fatalf("the schema %s is not right", brief(s))
		}
		for range 40 {
			table := r.Intn(2)
			var list []impl.Cond
			for range r.Intn(1 + r.Intn(9)) {
				list = append(list, someCond(r, s.Tables[table]))
			}
			chosen, left, code := choiceHolds(t, s, x, table, list)
			codes[code]++
			if code == impl.OK && len(list) > 0 {
				yes, no = yes+chosen, no+left
			}
		}
	}
	if yes < 10000 || no < 10000 || codes[impl.OK] < 5000 || codes[impl.ErrColumn] < 1000 || codes[impl.ErrType] < 1000 || len(codes) != 3 {
		t.Errorf("%d rows are chosen, %d are not; codes %v", yes, no, codes)
	}
}

// A condition more chooses no row more; what two lists choose, both do together.
func TestPromise7ListsTogether(t *testing.T) {
	r := rand.New(rand.NewSource(77))
	for range 300 {
		s := schema(someAskedTable(r, "a"))
		x := someAskedStore(r, s)
		var list []impl.Cond
		for len(list) < 8 {
			if c := someCond(r, s.Tables[0]); codeSays(s.Tables[0], c) == impl.OK {
				list = append(list, c)
			}
		}
		for cut := range 9 {
			front, _ := impl.SelectIds(s, x, 0, list[:cut])
			back, _ := impl.SelectIds(s, x, 0, list[cut:])
			want := slices.DeleteFunc(front, func(id int) bool { return !slices.Contains(back, id) })
			selectIs(t, "both lists", s, x, 0, list, want, impl.OK)
		}
		slices.Reverse(list)
		choiceHolds(t, s, x, 0, list)
	}
}

// Of each two functions that are each other's contrary one chooses a row, where there is a number.
func TestPromise7Contraries(t *testing.T) {
	x := askedTable()
	for n := -9; n <= 9; n++ {
		for m := -10; m <= 10; m++ {
			r := askedRow(1, "one", intAtom(n))
			for _, pair := range [][2]int{{impl.CoEq, impl.CoNe}, {impl.CoLt, impl.CoGe}, {impl.CoGt, impl.CoLe}, {impl.CoIncludes, impl.CoExcludes}} {
				a, code := impl.Matches(x, r, cond("one", pair[0], intAtom(m)))
				b, other := impl.Matches(x, r, cond("one", pair[1], intAtom(m)))
				if a == b || code != impl.OK || other != impl.OK {
					t.Errorf("%d and %d: functions %v are %v, %d and %v, %d", n, m, pair, a, code, b, other)
				}
			}
		}
	}
}

// condAnswers are those of all calls that take conditions; empty lists and nil are told alike.
func condAnswers(s impl.Schema, x impl.Store, list []impl.Cond) []any {
	var all []any
	for table := -1; table <= len(s.Tables); table++ {
		chosen, code := impl.SelectIds(s, x, table, list)
		all = append(all, append([]int{}, chosen...), code)
	}
	for i, table := range s.Tables {
		for _, c := range list {
			first, code := impl.CondCode(table, c)
			all = append(all, first, code, impl.FuncOf(impl.FuncWord(c.Func)))
		}
		if i >= len(x.Tables) {
			continue
		}
		for _, r := range x.Tables[i] {
			matches, code := impl.MatchesAll(table, r, list)
			all = append(all, matches, code)
			for _, c := range list {
				one, code := impl.Matches(table, r, c)
				all = append(all, one, code)
			}
		}
	}
	return all
}

// someCondLists are lists for the plain schema: met or not, with a code or wrong, none and too many.
func someCondLists() [][]impl.Cond {
	named := cond("name", impl.CoEq, textAtom("n"))
	return [][]impl.Cond{
		nil, {}, {named}, {cond("name", impl.CoNe, textAtom("n"))}, {cond("_uuid", impl.CoExcludes, ids(2, 5)...)}, {cond("about", impl.CoEq)}, {cond("tag", impl.CoGe, intAtom(0))},
		{cond("count", impl.CoLe, intAtom(0)), cond("ports", impl.CoIncludes, ids(2, 7)...)}, {named, cond("about", impl.CoIncludes, idAtom(7))}, {named, cond("x", impl.CoEq)}, {named, cond("name", impl.CoLt, textAtom("a"))},
		{named, {}}, {cond("about", impl.CoEq, ids(7, 2)...)}, {cond("name", 9)}, slices.Repeat(conds(named), 8), slices.Repeat(conds(named), 9), {cond(strings.Repeat("n", 41), impl.CoEq)},
	}
}

// asked is a condition or a mutation, which have the same parts.
type asked interface{ impl.Cond | impl.Mut }

// copyAsked answers a list that is alike and shares nothing; its lists are not nil.
func copyAsked[T asked](list []T) []T {
	made := []T{}
	for _, item := range list {
		c := impl.Cond(item)
		made = append(made, T(cond(strings.Clone(c.Column), c.Func, append([]impl.Atom{}, c.Value...)...)))
	}
	return made
}

func TestPromise1ConditionsAlikeAnswers(t *testing.T) {
	for _, s := range []impl.Schema{impl.PlainSchema(), heldSchema(), {}} {
		for _, x := range someStores() {
			for _, list := range someCondLists() {
				first := condAnswers(s, x, list)
				impl.SelectIds(schema(askedTable()), store(9, rows(askedRow(7, "one", intAtom(1)))), 0, conds(cond("one", impl.CoLt, intAtom(9))))
				impl.MatchesAll(askedTable(), askedRow(7, "many"), conds(cond("x", impl.CoEq)))
				impl.FuncWord(99)
				second := condAnswers(copySchema(s), copyStore(x), copyAsked(list))
				if !reflect.DeepEqual(first, second) {
					t.Errorf("%s and %s: %s, then %s", brief(x), brief(list), brief(first), brief(second))
				}
			}
		}
	}
}

// roomyAsked answers a list that is alike and shares nothing, its lists with room behind their ends where something stands.
func roomyAsked[T asked](list []T) []T {
	made := []T{}
	for _, item := range list {
		c := impl.Cond(item)
		made = append(made, T(cond(c.Column, c.Func, withRoom(c.Value)...)))
	}
	return append(made, T(cond("behind", 1)), T(cond("", 0)))[:len(made)]
}

// wholeAsked answers a copy of a list with all that stands behind its lists' ends.
func wholeAsked[T asked](list []T) []T {
	made := []T{}
	for _, item := range list[:cap(list)] {
		c := impl.Cond(item)
		made = append(made, T(cond(c.Column, c.Func, append(atoms(), c.Value[:cap(c.Value)]...)...)))
	}
	return made
}

func TestPromise1ConditionsStay(t *testing.T) {
	s := copySchema(impl.PlainSchema())
	before := kept(s)
	for _, x := range someStores() {
		for _, list := range someCondLists() {
			roomyX, roomyList := roomyStore(x), roomyAsked(list)
			wholeX, wholeList := wholeStore(roomyX), wholeAsked(roomyList)
			roomy := condAnswers(s, roomyX, roomyList)
			if !reflect.DeepEqual(wholeStore(roomyX), wholeX) || !reflect.DeepEqual(wholeAsked(roomyList), wholeList) {
				t.Fatalf("%s or %s was changed", brief(x), brief(list))
			}
			if tight := condAnswers(s, x, list); !reflect.DeepEqual(roomy, tight) {
				t.Errorf("%s and %s: room changes an answer", brief(x), brief(list))
			}
		}
	}
	if !reflect.DeepEqual(behind(s), before) {
		t.Error("the schema was changed")
	}
}

func TestPromise1EmptyListsOfConditionsAreNil(t *testing.T) {
	s, x := impl.PlainSchema(), smallStore()
	for _, list := range someCondLists() {
		bare, empty := slices.Clone(list), slices.Clone(list)
		for i, c := range list {
			if len(c.Value) == 0 {
				bare[i].Value, empty[i].Value = nil, []impl.Atom{}
			}
		}
		if len(list) == 0 {
			bare, empty = nil, []impl.Cond{}
		}
		if !reflect.DeepEqual(condAnswers(s, x, bare), condAnswers(s, copyStore(x), empty)) {
			t.Errorf("empty lists of %s are not as nil", brief(list))
		}
	}
}

func TestPromise1ChosenIdsAreNew(t *testing.T) {
	s := impl.PlainSchema()
	for _, x := range append(someStores(), roomyStore(smallStore())) {
		for _, list := range someCondLists() {
			for table := -1; table <= len(x.Tables); table++ {
				first, code := impl.SelectIds(s, x, table, list)
				isNew(t, fmt.Sprintf("SelectIds(%d) with code %d", table, code), first, s, x, list)
				want := slices.Clone(first)
				for i := range first[:cap(first)] {
					first[:cap(first)][i] = -7
				}
				second, again := impl.SelectIds(s, x, table, list)
				if !slices.Equal(second, want) || again != code {
					t.Errorf("a spoilt answer changes the next one: %v, not %v", second, want)
				}
				isNew(t, "SelectIds once more", second, first)
			}
		}
	}
}

// A condition's Value may be the very set of a row, and a list may have one condition many times.
func TestPromise1ConditionsThatShareMemory(t *testing.T) {
	x := smallStore()
	for table := range x.Tables {
		for _, r := range x.Tables[table] {
			for k, c := range impl.PlainSchema().Tables[table].Columns {
				own := impl.Cond{Column: c.Name, Func: impl.CoEq, Value: r.Cells[k]}
				matchIs(t, "its own set", impl.PlainSchema().Tables[table], r, own, true, impl.OK)
				choiceHolds(t, impl.PlainSchema(), x, table, slices.Repeat(conds(own), 8))
			}
		}
	}
	if !alikeStores(x, smallStore()) {
		t.Errorf("the store was changed: %s", brief(x))
	}
}

func TestPromise1ConditionsAtTheSameTime(t *testing.T) {
	s, x, lists := impl.PlainSchema(), smallStore(), someCondLists()
	var all sync.WaitGroup
	for range 8 {
		all.Go(func() {
			for _, list := range lists {
				first := condAnswers(s, x, list)
				if second := condAnswers(s, x, list); !reflect.DeepEqual(first, second) {
					t.Errorf("%s: %s, then %s", brief(list), brief(first), brief(second))
				}
			}
		})
	}
	all.Wait()
}
