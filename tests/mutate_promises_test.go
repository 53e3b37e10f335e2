package tests

import (
	"math/big"
	"math/rand"
	"reflect"
	"slices"
	"strings"
	"sync"
	"testing"

	"loop.example/g00524/impl"
)

// numberSays is what chapter 8 of the document says of two numbers, worked out by numbers of any length; whether it is a JsNumber.
func numberSays(function, n, by int) (int, bool) {
	if by == 0 && (function == impl.MuDiv || function == impl.MuMod) {
		return 0, false
	}
	a, b, c := big.NewInt(int64(n)), big.NewInt(int64(by)), new(big.Int)
	switch function {
	case impl.MuAdd:
		c.Add(a, b)
	case impl.MuSub:
		c.Sub(a, b)
	case impl.MuMul:
		c.Mul(a, b)
	case impl.MuDiv:
		c.Abs(a).Div(c, new(big.Int).Abs(b))
		if a.Sign()*b.Sign() < 0 {
			c.Neg(c)
		}
	case impl.MuMod:
		c.Abs(a).Mod(c, new(big.Int).Abs(b))
		if a.Sign() < 0 {
			c.Neg(c)
		}
	}
	return int(c.Int64()), c.CmpAbs(big.NewInt(top)) <= 0
}

// mutCodeSays is what the document says of the code of a right mutation in a column.
func mutCodeSays(c impl.Column, m impl.Mut) int {
	for _, a := range m.Value {
		if a.Kind != c.Kind {
			return impl.ErrType
		}
	}
	if strings.HasSuffix(impl.MutWord(m.Func), "=") && (c.Kind != impl.AtInt || len(m.Value) != 1) {
		return impl.ErrType
	}
	return impl.OK
}

// mutateSays is what the document says of a right mutation of a set that fits a right column.
func mutateSays(c impl.Column, d []impl.Atom, m impl.Mut) ([]impl.Atom, int) {
	if code := mutCodeSays(c, m); code != impl.OK {
		return nil, code
	}
	var made []impl.Atom
	switch m.Func {
	case impl.MuInsert:
		made = slices.Concat(d, m.Value)
	case impl.MuDelete:
		made = slices.DeleteFunc(slices.Clone(d), func(a impl.Atom) bool { return slices.Contains(m.Value, a) })
	default:
		for _, a := range d {
			n, right := numberSays(m.Func, a.N, m.Value[0].N)
			if !right {
				return nil, impl.ErrRange
			}
			made = append(made, intAtom(n))
		}
	}
	made = sortedOnce(made)
	if len(made) < c.Min || len(made) > c.Max {
		return nil, impl.ErrMany
	}
	for _, a := range made {
		if c.Kind == impl.AtInt && (a.N < c.Low || a.N > c.High) {
			return nil, impl.ErrRange
		}
	}
	return made, impl.OK
}

// rowSays is what the document says of right mutations of a row that fits a right table.
func rowSays(x impl.Table, r impl.Row, list []impl.Mut) (impl.Row, int) {
	places := map[string]int{}
	for i, c := range x.Columns {
		places[c.Name] = i
	}
	for _, m := range list {
		place, there := places[m.Column]
		if !there {
			return impl.Row{}, impl.ErrColumn
		}
		if code := mutCodeSays(x.Columns[place], m); code != impl.OK {
			return impl.Row{}, code
		}
	}
	made := copyRow(r)
	for _, m := range list {
		place := places[m.Column]
		cell, code := mutateSays(x.Columns[place], made.Cells[place], m)
		if code != impl.OK {
			return impl.Row{}, code
		}
		made.Cells[place] = cell
	}
	return made, impl.OK
}

// hasJust tells that a set has those of some atoms that it should, as DatumHas tells it.
func hasJust(t *testing.T, what string, d, some []impl.Atom, should func(a impl.Atom) bool) {
	t.Helper()
	if !impl.DatumOK(d) {
		t.Errorf("%s: %s is no set", what, brief(d))
	}
	for _, a := range some {
		if has, code := impl.DatumHas(d, a); has != should(a) || code != impl.OK {
			t.Errorf("%s: DatumHas(%s, %s) is %v, %d", what, brief(d), brief(a), has, code)
		}
	}
}

// insertedThere tells that what MuInsert put is there and what MuDelete took is not, and that the other atoms are as they were.
// It answers how many of both have no code.
func insertedThere(t *testing.T, c impl.Column, d, value, some []impl.Atom) int {
	t.Helper()
	done := 0
	all := slices.Concat(d, value, some)
	more, code := impl.Mutate(c, d, mut(c.Name, impl.MuInsert, value...))
	if code == impl.OK {
		done++
		hasJust(t, "inserted", more, all, func(a impl.Atom) bool { return slices.Contains(d, a) || slices.Contains(value, a) })
		taken, code := impl.Mutate(c, more, mut(c.Name, impl.MuDelete, value...))
		if code == impl.OK {
			hasJust(t, "inserted, then deleted", taken, all, func(a impl.Atom) bool { return slices.Contains(d, a) && !slices.Contains(value, a) })
		}
	}
	less, code := impl.Mutate(c, d, mut(c.Name, impl.MuDelete, value...))
	if code == impl.OK {
		done++
		hasJust(t, "deleted", less, all, func(a impl.Atom) bool { return slices.Contains(d, a) && !slices.Contains(value, a) })
		put, code := impl.Mutate(c, less, mut(c.Name, impl.MuInsert, value...))
		if code == impl.OK {
			hasJust(t, "deleted, then inserted", put, all, func(a impl.Atom) bool { return slices.Contains(d, a) || slices.Contains(value, a) })
		}
	}
	return done
}

// All cells of few atoms of each kind, and all Values of them, in columns for some of them and for all.
func TestPromise8AllSetsOfFewAtoms(t *testing.T) {
	for _, few := range append(fewAtoms(), ints(-2, 4)) {
		few = sortedOnce(few)
		for count := 1; count <= len(few); count++ {
			for fewest := range 2 {
				kind := few[0].Kind
				c := []impl.Column{intColumn(fewest, count, -99, 99), textColumn(fewest, count), boolColumn(fewest, count), refColumn(count, "t", true)}[kind-1]
				done, fitting := 0, 0
				for _, d := range eachSubset(few) {
					if fit, _ := impl.Fits(c, d); fit != impl.OK {
						continue
					}
					fitting++
					for _, value := range eachSubset(few) {
						done += insertedThere(t, c, d, value, few)
						for function := impl.MuInsert; function <= impl.MuDelete; function++ {
							want, code := mutateSays(c, d, mut("", function, value...))
							mutatedIs(t, "few atoms", c, d, mut("", function, value...), want, code)
						}
					}
				}
				if done < fitting*2 {
					t.Errorf("%s: %d of %d sets are mutated", brief(c), done, fitting)
				}
			}
		}
	}
}

// sameAgain tells that a number which became more and then less by the same, or the other way, is the same one again.
// It answers whether it could become more, and less.
func sameAgain(t *testing.T, c impl.Column, d []impl.Atom, by int) (more, less bool) {
	t.Helper()
	for i, pair := range [][2]int{{impl.MuAdd, impl.MuSub}, {impl.MuSub, impl.MuAdd}} {
		made, code := impl.Mutate(c, d, mut("", pair[0], intAtom(by)))
		if code != impl.OK {
			if code != impl.ErrRange || len(made) != 0 {
				t.Errorf("%s and %d: function %d is %s, %d", brief(d), by, pair[0], brief(made), code)
			}
			continue
		}
		again, code := impl.Mutate(c, made, mut("", pair[1], intAtom(by)))
		setIs(t, "a number more and less", again, code, d, impl.OK)
		sign := 1 - 2*i
		for k := range d {
			if len(made) != len(d) || made[k].N != d[k].N+sign*by {
				t.Errorf("%s and %d: function %d is %s", brief(d), by, pair[0], brief(made))
				break
			}
		}
		more, less = more || i == 0, less || i == 1
		x := table("t", textColumn(0, 1), c)
		r := row(7, word("a"), d)
		rowIs(t, "a number more and less", x, r, muts(mut(c.Name, pair[0], intAtom(by)), mut(c.Name, pair[1], intAtom(by))), r, impl.OK)
	}
	return more, less
}

func TestPromise8MoreAndLess(t *testing.T) {
	edges := []int{bottom, bottom + 1, -500000000, -8, -1, 0, 1, 7, 500000000, top - 1, top}
	for _, n := range edges {
		for _, by := range edges {
			for _, c := range []impl.Column{wideColumn(1), wideColumn(8), intColumn(1, 1, bottom, n), intColumn(1, 2, n, top)} {
				more, less := sameAgain(t, c, numbersOf(n), by)
				if more != (n+by >= c.Low && n+by <= c.High) || less != (n-by >= c.Low && n-by <= c.High) {
					t.Errorf("%s: %d and %d: more is %v, less %v", brief(c), n, by, more, less)
				}
			}
		}
	}
	r := rand.New(rand.NewSource(8))
	done := 0
	for range 4000 {
		bound := 1 + r.Intn(top)
		var d []impl.Atom
		for range r.Intn(9) {
			d = append(d, intAtom(r.Intn(2*bound)-bound))
		}
		more, less := sameAgain(t, intColumn(0, 8, -bound, bound), sortedOnce(d), r.Intn(bound)-bound/2)
		if more || less {
			done++
		}
	}
	if done < 1000 {
		t.Errorf("only %d could be more or less", done)
	}
}

// All pairs of few numbers, and numbers at the ends, by all five functions.
func TestPromise8PairsOfNumbers(t *testing.T) {
	numbers := []int{bottom, bottom + 1, -65536, -31623, top, top - 1, 65536, 31622}
	for n := -13; n <= 13; n++ {
		numbers = append(numbers, n)
	}
	for _, n := range numbers {
		for _, by := range numbers {
			for function := impl.MuAdd; function <= impl.MuMod; function++ {
				want, right := numberSays(function, n, by)
				if !right {
					want = noNumber
				}
				twoNumbers(t, function, n, by, want)
			}
			quotient, code := impl.Mutate(wideColumn(1), numbersOf(n), mut("", impl.MuDiv, intAtom(by)))
			rest, restCode := impl.Mutate(wideColumn(1), numbersOf(n), mut("", impl.MuMod, intAtom(by)))
			if code != restCode || code == impl.OK && (quotient[0].N*by+rest[0].N != n || rest[0].N*n < 0 || max(rest[0].N, -rest[0].N) >= max(by, -by)) {
				t.Errorf("%d and %d: the quotient is %s, %d, the rest %s, %d", n, by, brief(quotient), code, brief(rest), restCode)
			}
		}
	}
}

// someMut answers a right mutation, mostly one that has no code.
func someMut(r *rand.Rand, x impl.Table) impl.Mut {
	if r.Intn(25) == 0 {
		return mut([]string{"_uuid", "none", ""}[r.Intn(3)], 1+r.Intn(7), someSet(r, 1+r.Intn(4), 0, 3)...)
	}
	c := x.Columns[r.Intn(len(x.Columns))]
	kind, function := c.Kind, 6+r.Intn(2)
	if kind == impl.AtInt || r.Intn(25) == 0 {
		function = 1 + r.Intn(7)
	}
	if r.Intn(25) == 0 {
		kind = 1 + r.Intn(4)
	}
	if function <= impl.MuMod && r.Intn(9) > 0 {
		return mut(c.Name, function, someSet(r, kind, 1, 1)...)
	}
	return mut(c.Name, function, someSet(r, kind, 0, 3)...)
}

func TestPromise8SomeMutations(t *testing.T) {
	r := rand.New(rand.NewSource(88))
	codes := map[int]int{}
	for range 1500 {
		x := someAskedTable(r, "a")
		for _, given := range someAskedStore(r, schema(x)).Tables[0] {
			if !impl.RowOK(x, given) {
				t.Fatalf("the row %s does not fit %s", brief(given), brief(x))
			}
			var list []impl.Mut
			for range r.Intn(1 + r.Intn(9)) {
				list = append(list, someMut(r, x))
			}
			want, wantCode := rowSays(x, given, list)
			rowIs(t, "some mutations", x, given, list, want, wantCode)
			if wantCode == impl.OK && !impl.RowOK(x, want) {
				t.Errorf("%s and %s make what does not fit: %s", brief(given), brief(list), brief(want))
			}
			if len(list) > 0 {
				codes[wantCode]++
			}
		}
	}
	if len(codes) != 5 || codes[impl.OK] < 2000 || codes[impl.ErrMany] < 500 || codes[impl.ErrRange] < 500 || codes[impl.ErrColumn] < 200 || codes[impl.ErrType] < 200 {
		t.Errorf("codes %v", codes)
	}
}

// A list of mutations does what its two halves do, one behind the other; the cells that none of them names stay.
func TestPromise8ListsInTwo(t *testing.T) {
	r := rand.New(rand.NewSource(888))
	done := 0
	for range 1500 {
		x := someAskedTable(r, "a")
		stored := someAskedStore(r, schema(x)).Tables[0]
		if len(stored) == 0 {
			continue
		}
		var list []impl.Mut
		for len(list) < 4 {
			list = append(list, someMut(r, x))
		}
		whole, code := impl.MutateRow(x, stored[0], list)
		if code != impl.OK {
			continue
		}
		done++
		for cut := range 5 {
			front, frontCode := impl.MutateRow(x, stored[0], list[:cut])
			rowIs(t, "two halves", x, front, list[cut:], whole, max(frontCode, impl.OK))
		}
		for i, c := range x.Columns {
			named := slices.ContainsFunc(list, func(m impl.Mut) bool { return m.Column == c.Name })
			if !named && !slices.Equal(whole.Cells[i], stored[0].Cells[i]) {
				t.Errorf("%s and %s: cell %d does not stay: %s", brief(stored[0]), brief(list), i, brief(whole))
			}
		}
	}
	if done < 200 {
		t.Errorf("only %d lists were done", done)
	}
}

// mutAnswers are those of all calls that take mutations; empty lists and nil are told alike.
func mutAnswers(x impl.Table, r impl.Row, list []impl.Mut) []any {
	made, code := impl.MutateRow(x, r, list)
	all := []any{copyRow(made), code}
	for _, m := range list {
		first, code := impl.MutCode(x, m)
		all = append(all, first, code, impl.MutOf(impl.MutWord(m.Func)))
		for i, c := range x.Columns {
			if i < len(r.Cells) {
				d, code := impl.Mutate(c, r.Cells[i], m)
				all = append(all, append([]impl.Atom{}, d...), code)
			}
		}
	}
	return all
}

// someMutLists are lists for askedTable: done or not, with a code or wrong, none and too many.
func someMutLists() [][]impl.Mut {
	add, insert := mut("many", impl.MuAdd, intAtom(1)), mut("many", impl.MuInsert, ints(2, 5)...)
	return [][]impl.Mut{
		nil, {}, {add}, {insert}, {mut("many", impl.MuDelete, ints(1, 3)...)}, {mut("many", impl.MuMul, intAtom(-1))}, {mut("text", impl.MuInsert, textAtom("b"))}, {mut("bool", impl.MuDelete)}, {mut("ref", impl.MuInsert, ids(2, 7)...)},
		{mut("text", impl.MuInsert)}, {mut("one", impl.MuSub, intAtom(2)), add, insert, mut("must", impl.MuMul, intAtom(3))}, {mut("one", impl.MuDiv, intAtom(0))}, {mut("must", impl.MuDiv, intAtom(0))}, {add, mut("must", impl.MuDelete, intAtom(5))},
		{add, mut("x", impl.MuAdd)}, {add, mut("text", impl.MuAdd, textAtom("a"))}, {add, {}}, {mut("ref", impl.MuInsert, ids(7, 2)...)}, {mut("one", 8)}, slices.Repeat(muts(mut("must", impl.MuAdd, intAtom(1))), 8), slices.Repeat(muts(add), 9), {mut(strings.Repeat("n", 41), impl.MuInsert)},
	}
}

// someMutRows are rows of askedTable, right ones and wrong ones.
func someMutRows() []impl.Row {
	return []impl.Row{
		row(7, atoms(intAtom(1)), atoms(intAtom(5)), ints(1, 4), word("a"), atoms(boolAtom(1)), ids(3, 4)), askedRow(1, "many", ints(-9, -1)...), askedRow(1, "one"), askedRow(1, "ref", ids(7)...),
		{}, {Id: 7}, askedRow(0, "one"), askedRow(7, "one", intAtom(10)), askedRow(7, "many", intAtom(2), intAtom(1)), row(7, nil, numbersOf(1), nil),
	}
}

func TestPromise1MutationsAlikeAnswers(t *testing.T) {
	for _, x := range []impl.Table{askedTable(), kindsTable(), {}} {
		for _, r := range someMutRows() {
			for _, list := range someMutLists() {
				first := mutAnswers(x, r, list)
				impl.MutateRow(askedTable(), askedRow(9, "many", ints(0, 8)...), muts(mut("many", impl.MuMul, intAtom(0))))
				impl.Mutate(wideColumn(1), numbersOf(7), mut("", impl.MuDiv, intAtom(0)))
				impl.MutWord(99)
				second := mutAnswers(copySchema(schema(x)).Tables[0], copyRow(r), copyAsked(list))
				if !reflect.DeepEqual(first, second) {
					t.Errorf("%s and %s: %s, then %s", brief(r), brief(list), brief(first), brief(second))
				}
			}
		}
	}
}

func TestPromise1MutationsStay(t *testing.T) {
	s := copySchema(schema(askedTable()))
	before := kept(s)
	for _, r := range someMutRows() {
		for _, list := range someMutLists() {
			roomyR, roomyList := roomyRow(r), roomyAsked(list)
			wholeR, wholeList := wholeRow(roomyR), wholeAsked(roomyList)
			roomy := mutAnswers(s.Tables[0], roomyR, roomyList)
			if !reflect.DeepEqual(wholeRow(roomyR), wholeR) || !reflect.DeepEqual(wholeAsked(roomyList), wholeList) {
				t.Fatalf("%s or %s was changed", brief(r), brief(list))
			}
			if tight := mutAnswers(s.Tables[0], r, list); !reflect.DeepEqual(roomy, tight) {
				t.Errorf("%s and %s: room changes an answer", brief(r), brief(list))
			}
		}
	}
	if !reflect.DeepEqual(behind(s), before) {
		t.Error("the table was changed")
	}
}

func TestPromise1EmptyListsOfMutationsAreNil(t *testing.T) {
	for _, r := range someMutRows() {
		for _, list := range someMutLists() {
			bare, empty := slices.Clone(list), slices.Clone(list)
			for i, m := range list {
				if len(m.Value) == 0 {
					bare[i].Value, empty[i].Value = nil, []impl.Atom{}
				}
			}
			if len(list) == 0 {
				bare, empty = nil, []impl.Mut{}
			}
			none := impl.Row{Id: r.Id}
			for _, d := range r.Cells {
				none.Cells = append(none.Cells, map[bool][]impl.Atom{false: d}[len(d) == 0])
			}
			if !reflect.DeepEqual(mutAnswers(askedTable(), none, bare), mutAnswers(askedTable(), copyRow(r), empty)) {
				t.Errorf("empty lists of %s and %s are not as nil", brief(r), brief(list))
			}
		}
	}
}

// mutatedNew tells that no answer shares memory with an argument, nor with an answer ahead of it, and that no spoilt answer changes the next one.
func mutatedNew(t *testing.T, x impl.Table, r impl.Row, list []impl.Mut) {
	t.Helper()
	made, code := impl.MutateRow(x, r, list)
	isNew(t, "MutateRow", made, x, r, list)
	want := copyRow(made)
	for _, d := range made.Cells {
		spoilAtoms(d)
	}
	again, againCode := impl.MutateRow(x, r, list)
	if !alikeRows(again, want) || againCode != code {
		t.Errorf("%s and %s: a spoilt answer changes the next one", brief(r), brief(list))
	}
	isNew(t, "MutateRow once more", again, made)
	for _, m := range list {
		for i, c := range x.Columns[:min(len(x.Columns), len(r.Cells))] {
			d, _ := impl.Mutate(c, r.Cells[i], m)
			isNew(t, "Mutate", d, x, r, list)
			want := slices.Clone(d)
			spoilAtoms(d)
			if again, _ := impl.Mutate(c, r.Cells[i], m); !slices.Equal(again, want) {
				t.Errorf("%s and %s: a spoilt set changes the next one", brief(r), brief(m))
			}
		}
	}
}

func TestPromise1MutatedRowsAreNew(t *testing.T) {
	for _, r := range someMutRows() {
		for _, list := range someMutLists() {
			mutatedNew(t, askedTable(), r, list)
			mutatedNew(t, askedTable(), roomyRow(r), roomyAsked(list))
		}
	}
}

// A mutation's Value may be the very set of a row, all cells one list, and all mutations of a list have one Value.
func TestPromise1MutationsThatShareMemory(t *testing.T) {
	all := withRoom(ints(0, 4))
	x := table("t", called(intColumn(0, 8, -99, 99), "a"), called(intColumn(0, 8, -99, 99), "b"))
	r := row(7, all, all)
	for _, c := range []struct {
		list []impl.Mut
		a, b []impl.Atom
	}{
		{nil, ints(0, 4), ints(0, 4)}, {muts(mut("a", impl.MuInsert, all...)), ints(0, 4), ints(0, 4)}, {muts(impl.Mut{Column: "a", Func: impl.MuDelete, Value: all}), nil, ints(0, 4)},
		{muts(impl.Mut{Column: "a", Func: impl.MuDelete, Value: all[:2]}, impl.Mut{Column: "b", Func: impl.MuDelete, Value: all[2:]}), ints(2, 4), ints(0, 2)},
		{muts(impl.Mut{Column: "a", Func: impl.MuAdd, Value: all[3:4]}, impl.Mut{Column: "a", Func: impl.MuInsert, Value: all[:3]}, impl.Mut{Column: "b", Func: impl.MuMul, Value: all[:1]}), ints(0, 7), numbersOf(0)},
	} {
		before := slices.Clone(all[:cap(all)])
		mutatedNew(t, x, r, c.list)
		rowIs(t, "shared memory", x, r, c.list, row(7, c.a, c.b), impl.OK)
		if !slices.Equal(all[:cap(all)], before) {
			t.Fatalf("%s was changed", brief(all))
		}
	}
}

func TestPromise1MutationsAtTheSameTime(t *testing.T) {
	x, list, lists := askedTable(), someMutRows(), someMutLists()
	var all sync.WaitGroup
	for range 8 {
		all.Go(func() {
			for _, r := range list {
				for _, some := range lists {
					first := mutAnswers(x, r, some)
					if second := mutAnswers(x, r, some); !reflect.DeepEqual(first, second) {
						t.Errorf("%s: %s, then %s", brief(some), brief(first), brief(second))
					}
				}
			}
		})
	}
	all.Wait()
}
