package tests

import (
	"fmt"
	"math"
	"slices"
	"strings"
	"testing"

	"loop.example/g00524/impl"
)

func cond(column string, function int, value ...impl.Atom) impl.Cond {
	return impl.Cond{Column: column, Func: function, Value: value}
}

func conds(list ...impl.Cond) []impl.Cond { return list }

// orders tells whether a function orders numbers.
func orders(function int) bool { return function >= impl.CoLt && function <= impl.CoGe }

// condCodeIs tells what CondCode answers.
func condCodeIs(t *testing.T, what string, x impl.Table, c impl.Cond, want, wantCode int) {
	t.Helper()
	if first, code := impl.CondCode(x, c); first != want || code != wantCode {
		t.Errorf("%s: CondCode(%s) is %d, %d, not %d, %d", what, brief(c), first, code, want, wantCode)
	}
}

// matchIs tells what Matches answers, and MatchesAll of that condition alone and behind itself.
func matchIs(t *testing.T, what string, x impl.Table, r impl.Row, c impl.Cond, want bool, wantCode int) {
	t.Helper()
	if got, code := impl.Matches(x, r, c); got != want || code != wantCode {
		t.Errorf("%s: Matches(%s, %s) is %v, %d, not %v, %d", what, brief(r), brief(c), got, code, want, wantCode)
	}
	matchAllIs(t, what, x, r, conds(c), want, wantCode)
	matchAllIs(t, what, x, r, conds(c, c), want, wantCode)
}

// matchAllIs tells what MatchesAll answers.
func matchAllIs(t *testing.T, what string, x impl.Table, r impl.Row, list []impl.Cond, want bool, wantCode int) {
	t.Helper()
	if got, code := impl.MatchesAll(x, r, list); got != want || code != wantCode {
		t.Errorf("%s: MatchesAll(%s, %s) is %v, %d, not %v, %d", what, brief(r), brief(list), got, code, want, wantCode)
	}
}

// selectIs tells what SelectIds answers.
func selectIs(t *testing.T, what string, s impl.Schema, x impl.Store, table int, list []impl.Cond, want []int, wantCode int) {
	t.Helper()
	if got, code := impl.SelectIds(s, x, table, list); !slices.Equal(got, want) || code != wantCode {
		t.Errorf("%s: SelectIds(%d, %s) is %v, %d, not %v, %d", what, table, brief(list), got, code, want, wantCode)
	}
}

// wordsAre tells that functions are numbered from 1 on, each by its word, and that other numbers and words are none.
func wordsAre(t *testing.T, words string, functions []int, wordOf func(n int) string, numberOf func(word string) int, others ...string) {
	t.Helper()
	for i, word := range strings.Fields(words) {
		if functions[i] != i+1 {
			t.Errorf("the number of %s is %d", word, functions[i])
		}
		if got := wordOf(i + 1); got != word {
			t.Errorf("the word of %d is %q, not %q", i+1, got, word)
		}
		if got := numberOf(word); got != i+1 {
			t.Errorf("the function of %q is %d, not %d", word, got, i+1)
		}
		others = append(others, word+" ", " "+word, word+"\x00", word+word, word[:len(word)-1]+"~", strings.ToUpper(word)+"!", strings.Repeat(word, impl.MaxText))
	}
	count := len(functions)
	for _, n := range []int{math.MinInt, -count - 1, -count, -1, 0, count + 1, count + 2, 1 << 32, 1<<32 + 1, math.MaxInt} {
		if got := wordOf(n); got != "" {
			t.Errorf("the word of %d is %q", n, got)
		}
	}
	for _, word := range append(others, "", "=", "1", "ok", "\xff", strings.Repeat("a", impl.MaxText), strings.Repeat("a", impl.MaxText+1)) {
		if got := numberOf(word); got != 0 {
			t.Errorf("the function of %.20q is %d", word, got)
		}
	}
}

func TestFunctionsAndTheirWords(t *testing.T) {
	functions := []int{impl.CoEq, impl.CoNe, impl.CoLt, impl.CoLe, impl.CoGt, impl.CoGe, impl.CoIncludes, impl.CoExcludes}
	wordsAre(t, "== != < <= > >= includes excludes", functions, impl.FuncWord, impl.FuncOf, "!", "===", "=<", "=>", "<>", "Includes", "INCLUDES", "include", "exclude", "+=", "insert", "delete")
}

// askedTable has columns of all kinds: numbers of at most one, of just one and of several.
func askedTable() impl.Table {
	return impl.Table{Name: "t", Root: true, Columns: []impl.Column{
		called(intColumn(0, 1, -9, 9), "one"), called(intColumn(1, 1, -1000000000, 1000000000), "must"), called(intColumn(0, 8, -9, 9), "many"),
		called(textColumn(0, 8), "text"), called(boolColumn(0, 2), "bool"), called(refColumn(8, "t", false), "ref"),
	}}
}

// askedRow is a row of that table with nothing but what it must have, and one cell.
func askedRow(id int, column string, cell ...impl.Atom) impl.Row {
	r := row(id, nil, atoms(intAtom(0)), nil, nil, nil, nil)
	for i, c := range askedTable().Columns {
		if c.Name == column {
			r.Cells[i] = cell
		}
	}
	return r
}

// allFuncsAre tells what the eight functions answer, in their order: t, f, or - for ErrType.
func allFuncsAre(t *testing.T, column string, cell, value []impl.Atom, want string) {
	t.Helper()
	for i, letter := range want {
		code := impl.OK
		if letter == '-' {
			code = impl.ErrType
		}
		c := cond(column, i+1, value...)
		what := fmt.Sprintf("%s of %s and %s", impl.FuncWord(i+1), brief(cell), brief(value))
		condCodeIs(t, what, askedTable(), c, code, impl.OK)
		matchIs(t, what, askedTable(), askedRow(7, column, cell...), c, letter == 't', code)
	}
}

func TestOneNumber(t *testing.T) {
	for _, c := range []struct {
		cell, value int
		want        string
	}{
		{5, 5, "tfftfttf"}, {5, 6, "ftttffft"}, {5, 4, "ftffttft"}, {-5, 5, "ftttffft"}, {5, -5, "ftffttft"}, {0, 0, "tfftfttf"}, {-1, 0, "ftttffft"}, {0, -1, "ftffttft"}, {-9, -9, "tfftfttf"},
		{9, 1000000000, "ftttffft"}, {-9, -1000000000, "ftffttft"}, {9, 10, "ftttffft"},
	} {
		for _, column := range []string{"one", "must"} {
			allFuncsAre(t, column, atoms(intAtom(c.cell)), atoms(intAtom(c.value)), c.want)
		}
	}
	for _, c := range []struct {
		cell, value int
		want        string
	}{
		{1000000000, -1000000000, "ftffttft"}, {-1000000000, 1000000000, "ftttffft"}, {1000000000, 1000000000, "tfftfttf"}, {-1000000000, -1000000000, "tfftfttf"}, {1000000000, 999999999, "ftffttft"},
	} {
		allFuncsAre(t, "must", atoms(intAtom(c.cell)), atoms(intAtom(c.value)), c.want)
	}
}

// A cell with nothing is less than no number and greater than none; a Value with nothing is no number to ask for.
func TestCellsAndValuesWithNothing(t *testing.T) {
	for _, none := range [][]impl.Atom{nil, {}} {
		allFuncsAre(t, "one", none, atoms(intAtom(0)), "ftffffft")
		allFuncsAre(t, "one", none, atoms(intAtom(-1000000000)), "ftffffft")
		allFuncsAre(t, "one", none, atoms(intAtom(1000000000)), "ftffffft")
		allFuncsAre(t, "one", none, none, "tf----tt")
		allFuncsAre(t, "one", none, nil, "tf----tt")
		allFuncsAre(t, "one", atoms(intAtom(0)), none, "ft----tt")
		allFuncsAre(t, "must", atoms(intAtom(0)), none, "ft----tt")
		allFuncsAre(t, "_uuid", none, none, "ft----tt")
		for column, one := range map[string]impl.Atom{"many": intAtom(0), "text": textAtom(""), "bool": boolAtom(0), "ref": idAtom(1)} {
			allFuncsAre(t, column, none, atoms(one), "ft----ft")
			allFuncsAre(t, column, none, none, "tf----tt")
			allFuncsAre(t, column, none, nil, "tf----tt")
			allFuncsAre(t, column, atoms(one), none, "ft----tt")
		}
	}
}

func TestCellsWithSeveralAtoms(t *testing.T) {
	for column, three := range map[string][]impl.Atom{
		"many": ints(1, 4), "text": atoms(textAtom(""), textAtom("a"), textAtom("aa")), "ref": ids(7, 8, 1000000),
	} {
		one, two, last := three[:1], three[:2], three[2:]
		apart := atoms(three[0], three[2])
		allFuncsAre(t, column, three, three, "tf----tf")
		allFuncsAre(t, column, three, one, "ft----tf")
		allFuncsAre(t, column, three, two, "ft----tf")
		allFuncsAre(t, column, three, last, "ft----tf")
		allFuncsAre(t, column, three, apart, "ft----tf")
		allFuncsAre(t, column, one, three, "ft----ff")
		allFuncsAre(t, column, two, three, "ft----ff")
		allFuncsAre(t, column, apart, three, "ft----ff")
		allFuncsAre(t, column, two, last, "ft----ft")
		allFuncsAre(t, column, last, two, "ft----ft")
		allFuncsAre(t, column, two, apart, "ft----ff")
		allFuncsAre(t, column, apart, two, "ft----ff")
		allFuncsAre(t, column, one, one, "tf----tf")
		allFuncsAre(t, column, one, last, "ft----ft")
	}
	both := atoms(boolAtom(0), boolAtom(1))
	allFuncsAre(t, "bool", both, both, "tf----tf")
	allFuncsAre(t, "bool", both, both[1:], "ft----tf")
	allFuncsAre(t, "bool", both[:1], both, "ft----ff")
	allFuncsAre(t, "bool", both[:1], both[1:], "ft----ft")
}

// A Value may have more atoms than its column, and numbers that are out of its bounds.
func TestValuesThatDoNotFitTheirColumn(t *testing.T) {
	allFuncsAre(t, "one", atoms(intAtom(5)), ints(5, 7), "ft----ff")
	allFuncsAre(t, "one", atoms(intAtom(5)), ints(6, 8), "ft----ft")
	allFuncsAre(t, "one", nil, ints(6, 8), "ft----ft")
	allFuncsAre(t, "one", atoms(intAtom(8)), ints(1, 9), "ft----ff")
	allFuncsAre(t, "one", nil, ints(1, 9), "ft----ft")
	allFuncsAre(t, "must", atoms(intAtom(8)), ints(1, 9), "ft----ff")
	allFuncsAre(t, "many", ints(1, 9), ints(1, 9), "tf----tf")
	allFuncsAre(t, "many", ints(1, 9), ints(2, 10), "ft----ff")
	allFuncsAre(t, "many", ints(1, 9), atoms(intAtom(1000000000)), "ft----ft")
	allFuncsAre(t, "_uuid", nil, ids(6, 7), "ft----ff")
	allFuncsAre(t, "_uuid", nil, ids(1, 2, 3, 4, 5, 6, 7, 8), "ft----ff")
}

// Atoms of different kinds may have the same number: of another kind than the column's they are ErrType, whatever the cell has.
func TestValuesOfOtherKinds(t *testing.T) {
	kinds := map[string]int{"one": impl.AtInt, "must": impl.AtInt, "many": impl.AtInt, "text": impl.AtText, "bool": impl.AtBool, "ref": impl.AtUuid, "_uuid": impl.AtUuid}
	cells := map[string][]impl.Atom{"one": atoms(intAtom(1)), "must": atoms(intAtom(1)), "many": ints(0, 2), "text": atoms(textAtom("1")), "bool": atoms(boolAtom(1)), "ref": ids(1)}
	for column, kind := range kinds {
		for _, value := range append(rightSets(), atoms(intAtom(1)), atoms(boolAtom(1)), ids(1), word("1")) {
			if len(value) == 0 || value[0].Kind == kind {
				continue
			}
			allFuncsAre(t, column, cells[column], value, "--------")
			if column != "must" {
				allFuncsAre(t, column, nil, value, "--------")
			}
		}
	}
}

func TestWhichColumnsAreOrdered(t *testing.T) {
	for _, column := range rightColumns() {
		x := table("t", column)
		for function := impl.CoEq; function <= impl.CoExcludes; function++ {
			for _, value := range rightSets() {
				want := impl.OK
				if len(value) > 0 && value[0].Kind != column.Kind || orders(function) && (column.Kind != impl.AtInt || column.Max > 1 || len(value) != 1) {
					want = impl.ErrType
				}
				condCodeIs(t, brief(column), x, cond(column.Name, function, value...), want, impl.OK)
			}
		}
	}
}

func TestConditionsOnTheId(t *testing.T) {
	for _, c := range []struct {
		id    int
		value []impl.Atom
		want  string
	}{
		{7, ids(7), "tf----tf"}, {7, ids(8), "ft----ft"}, {7, ids(6, 7), "ft----ff"}, {7, ids(6, 8), "ft----ft"}, {7, nil, "ft----tt"},
		{1, ids(1), "tf----tf"}, {1000000, ids(1000000), "tf----tf"}, {1000000, ids(999999), "ft----ft"}, {1, ids(1, 2, 3, 4, 5, 6, 7, 8), "ft----ff"},
		{1, atoms(intAtom(1)), "--------"}, {1, atoms(boolAtom(1)), "--------"}, {1, word("1"), "--------"},
	} {
		for i, letter := range c.want {
			code := map[bool]int{true: impl.ErrType, false: impl.OK}[letter == '-']
			asked := cond("_uuid", i+1, c.value...)
			condCodeIs(t, "the Id", askedTable(), asked, code, impl.OK)
			matchIs(t, "the Id", askedTable(), askedRow(c.id, "ref", idAtom(3)), asked, letter == 't', code)
		}
	}
	for _, name := range []string{"_Uuid", "uuid", "_uuid ", " _uuid", "_uui", "_uuid_", "Id", "id"} {
		condCodeIs(t, "not the Id", askedTable(), cond(name, impl.CoEq, idAtom(7)), impl.ErrColumn, impl.OK)
	}
}

// A column that is called as the Id is takes its place, of whatever kind it is and wherever it stands.
func TestColumnsThatAreCalledAsTheId(t *testing.T) {
	one := called(intColumn(0, 1, 0, 9), "_uuid")
	for what, c := range map[string]struct {
		x impl.Table
		r impl.Row
	}{
		"first": {table("t", one, textColumn(0, 1)), row(7, atoms(intAtom(5)), nil)},
		"last":  {table("t", textColumn(0, 1), one), row(7, word("a"), atoms(intAtom(5)))},
		"alone": {table("t", one), row(7, atoms(intAtom(5)))},
	} {
		for i, letter := range "tfftfttf" {
			condCodeIs(t, what, c.x, cond("_uuid", i+1, intAtom(5)), impl.OK, impl.OK)
			matchIs(t, what, c.x, c.r, cond("_uuid", i+1, intAtom(5)), letter == 't', impl.OK)
			condCodeIs(t, what, c.x, cond("_uuid", i+1, idAtom(7)), impl.ErrType, impl.OK)
			matchIs(t, what, c.x, c.r, cond("_uuid", i+1, idAtom(7)), false, impl.ErrType)
		}
	}
	ref := table("t", called(refColumn(8, "t", false), "_uuid"))
	matchIs(t, "a reference", ref, row(7, ids(3)), cond("_uuid", impl.CoEq, idAtom(7)), false, impl.OK)
	matchIs(t, "a reference", ref, row(7, ids(3)), cond("_uuid", impl.CoEq, idAtom(3)), true, impl.OK)
	matchIs(t, "a reference to nobody", ref, row(7, nil), cond("_uuid", impl.CoEq), true, impl.OK)
	matchIs(t, "a reference to two", ref, row(7, ids(3, 7)), cond("_uuid", impl.CoEq, idAtom(7)), false, impl.OK)
	s := schema(ref)
	x := store(9, rows(row(3, ids(7)), row(7, ids(3)), row(8, nil)))
	selectIs(t, "a reference", s, x, 0, conds(cond("_uuid", impl.CoEq, idAtom(3))), []int{7}, impl.OK)
	selectIs(t, "a reference", s, x, 0, conds(cond("_uuid", impl.CoEq)), []int{8}, impl.OK)
}

func TestNamesOfAskedColumns(t *testing.T) {
	long := strings.Repeat("n", impl.MaxName)
	x := table("t", called(textColumn(0, 1), long), called(textColumn(0, 1), "N"))
	r := row(7, word("a"), word("b"))
	s, y := schema(x), store(9, rows(r))
	for name, want := range map[string][2]int{
		long: {impl.OK, impl.OK}, "N": {impl.OK, impl.OK}, "_uuid": {impl.OK, impl.OK},
		"": {impl.ErrColumn, impl.OK}, "n": {impl.ErrColumn, impl.OK}, "t": {impl.ErrColumn, impl.OK}, "9": {impl.ErrColumn, impl.OK}, "N ": {impl.ErrColumn, impl.OK}, "\xff": {impl.ErrColumn, impl.OK},
		long[1:]: {impl.ErrColumn, impl.OK}, strings.Repeat(" ", 40): {impl.ErrColumn, impl.OK}, strings.Repeat("\x00", 40): {impl.ErrColumn, impl.OK}, strings.Repeat("é", 20): {impl.ErrColumn, impl.OK},
		long + "n": {impl.OK, impl.ErrBad}, long + " ": {impl.OK, impl.ErrBad}, strings.Repeat("\x00", 41): {impl.OK, impl.ErrBad}, strings.Repeat("é", 21): {impl.OK, impl.ErrBad},
		strings.Repeat("n", impl.MaxText): {impl.OK, impl.ErrBad}, strings.Repeat("n", impl.MaxText+1): {impl.OK, impl.ErrBad},
	} {
		c := cond(name, impl.CoIncludes)
		condCodeIs(t, "a name", x, c, want[0], want[1])
		code := max(want[0], want[1])
		matchIs(t, "a name", x, r, c, code == impl.OK, code)
		chosen := map[bool][]int{true: {7}}[code == impl.OK]
		selectIs(t, "a name", s, y, 0, conds(c), chosen, code)
		selectIs(t, "a name, last", s, y, 0, conds(cond("N", impl.CoIncludes), c), chosen, code)
	}
}

// wrongConds are conditions that are not right, whatever the table.
func wrongConds() map[string]impl.Cond {
	wrong := map[string]impl.Cond{
		"nothing":                   {},
		"a long Column":             cond(strings.Repeat("n", impl.MaxName+1), impl.CoEq, intAtom(1)),
		"a Column beyond MaxText":   cond(strings.Repeat("n", impl.MaxText+1), impl.CoEq),
		"no column, no function":    cond("x", 0, intAtom(1)),
		"no column, no set":         cond("x", impl.CoEq, intAtom(2), intAtom(1)),
		"no column, a long one":     cond(strings.Repeat("\x00", impl.MaxName+1), 9, intAtom(2), intAtom(1)),
		"another kind, no function": cond("one", -1, textAtom("a")),
		"a set of two kinds":        cond("one", impl.CoEq, intAtom(1), textAtom("a")),
		"MaxSet and one more":       cond("many", impl.CoIncludes, ints(0, 9)...),
		"more atoms than a list":    cond("many", impl.CoIncludes, ints(0, impl.MaxList+1)...),
		"an order of two that fall": cond("one", impl.CoLt, intAtom(2), intAtom(1)),
		"an order of a wrong atom":  cond("one", impl.CoGe, intAtom(1000000001)),
	}
	for _, n := range []int{math.MinInt, -8, -1, 0, 9, 10, 1<<32 + 1, math.MaxInt} {
		wrong[fmt.Sprint("function ", n)] = cond("one", n, intAtom(1))
		wrong[fmt.Sprint("function ", n, " of nothing")] = cond("one", n)
	}
	for name, d := range wrongSets() {
		wrong["includes "+name] = cond("many", impl.CoIncludes, d...)
		wrong["== "+name] = cond("text", impl.CoEq, d...)
	}
	return wrong
}

func TestWrongConditions(t *testing.T) {
	x, r := askedTable(), askedRow(7, "one", intAtom(1))
	s, y := schema(x), store(9, rows(r))
	right, other, column := cond("one", impl.CoEq, intAtom(1)), cond("one", impl.CoEq, intAtom(2)), cond("x", impl.CoEq)
	for what, wrong := range wrongConds() {
		condCodeIs(t, what, x, wrong, impl.OK, impl.ErrBad)
		matchIs(t, what, x, r, wrong, false, impl.ErrBad)
		for _, list := range [][]impl.Cond{
			{wrong}, {right, wrong}, {wrong, right}, {other, wrong}, {wrong, other}, {column, wrong}, {wrong, column}, {right, right, right, right, right, right, right, wrong}, {right, right, wrong, right},
		} {
			matchAllIs(t, what, x, r, list, false, impl.ErrBad)
			selectIs(t, what, s, y, 0, list, nil, impl.ErrBad)
			selectIs(t, what+", no rows", s, store(9, nil), 0, list, nil, impl.ErrBad)
			for _, place := range []int{math.MinInt, -1, 1, math.MaxInt} {
				selectIs(t, what+", no table", s, y, place, list, nil, impl.ErrBad)
			}
		}
	}
}

func TestHowManyConditions(t *testing.T) {
	x, r := askedTable(), askedRow(7, "one", intAtom(1))
	s, y := schema(x), store(9, rows(r, askedRow(8, "one", intAtom(2))))
	matchAllIs(t, "no condition", x, r, nil, true, impl.OK)
	matchAllIs(t, "an empty list", x, r, conds(), true, impl.OK)
	matchAllIs(t, "an empty list", x, r, []impl.Cond{}, true, impl.OK)
	selectIs(t, "no condition", s, y, 0, nil, []int{7, 8}, impl.OK)
	selectIs(t, "an empty list", s, y, 0, []impl.Cond{}, []int{7, 8}, impl.OK)
	yes, no := cond("one", impl.CoEq, intAtom(1)), cond("one", impl.CoGt, intAtom(2))
	for count, code := range map[int]int{
		1: impl.OK, 7: impl.OK, 8: impl.OK, 9: impl.ErrBad, 10: impl.ErrBad, 16: impl.ErrBad, impl.MaxList: impl.ErrBad,
		impl.MaxList + 1: impl.ErrLong, impl.MaxList * 3: impl.ErrLong,
	} {
		what := fmt.Sprintf("%d conditions", count)
		all := slices.Repeat(conds(yes), count)
		none := append(slices.Repeat(conds(yes), count-1), no)
		bad := make([]impl.Cond, count)
		matchAllIs(t, what, x, r, all, code == impl.OK, code)
		matchAllIs(t, what, x, r, none, false, code)
		matchAllIs(t, what+", wrong ones", x, r, bad, false, max(code, impl.ErrBad))
		matchAllIs(t, what+", a wrong table", impl.Table{}, r, all, false, max(code, impl.ErrBad))
		matchAllIs(t, what+", a wrong row", x, impl.Row{}, all, false, max(code, impl.ErrBad))
		selectIs(t, what, s, y, 0, all, map[bool][]int{true: {7}}[code == impl.OK], code)
		selectIs(t, what, s, y, 0, none, nil, code)
		selectIs(t, what+", wrong ones", s, y, 0, bad, nil, max(code, impl.ErrBad))
		selectIs(t, what+", a wrong schema", impl.Schema{}, y, 0, all, nil, max(code, impl.ErrBad))
		selectIs(t, what+", a wrong store", s, impl.Store{}, 0, all, nil, max(code, impl.ErrBad))
		for _, place := range []int{-1, 1} {
			selectIs(t, what+", no table", s, y, place, all, nil, map[bool]int{true: impl.ErrTable, false: code}[code == impl.OK])
		}
	}
}

// Which of its conditions a row is not as: each of eight, alone or with others.
func TestEachConditionCounts(t *testing.T) {
	x := askedTable()
	r := row(7, atoms(intAtom(1)), atoms(intAtom(5)), ints(1, 4), word("a"), atoms(boolAtom(1)), ids(3, 4))
	yes := conds(cond("one", impl.CoEq, intAtom(1)), cond("must", impl.CoGt, intAtom(4)), cond("many", impl.CoIncludes, intAtom(2)), cond("text", impl.CoNe, textAtom("b")),
		cond("bool", impl.CoExcludes, boolAtom(0)), cond("ref", impl.CoEq, ids(3, 4)...), cond("_uuid", impl.CoEq, idAtom(7)), cond("must", impl.CoLe, intAtom(5)))
	no := conds(cond("one", impl.CoNe, intAtom(1)), cond("must", impl.CoGt, intAtom(5)), cond("many", impl.CoExcludes, intAtom(2)), cond("text", impl.CoEq, textAtom("b")),
		cond("bool", impl.CoIncludes, boolAtom(0)), cond("ref", impl.CoEq, ids(3)...), cond("_uuid", impl.CoNe, idAtom(7)), cond("must", impl.CoLt, intAtom(5)))
	for bits := range 1 << 8 {
		list := slices.Clone(yes)
		for i := range list {
			if bits>>i&1 == 1 {
				list[i] = no[i]
			}
		}
		matchAllIs(t, fmt.Sprintf("conditions %08b", bits), x, r, list, bits == 0, impl.OK)
		want := map[bool][]int{true: {7}}[bits == 0]
		selectIs(t, fmt.Sprintf("conditions %08b", bits), schema(x), store(9, rows(r)), 0, list, want, impl.OK)
	}
}

// The first condition of a list that has a code gives it, also where one ahead of it is not met.
func TestTheFirstCodeOfAList(t *testing.T) {
	x, r := askedTable(), askedRow(7, "one", intAtom(1))
	s := schema(x)
	yes, no := cond("one", impl.CoEq, intAtom(1)), cond("one", impl.CoEq, intAtom(2))
	column, kind, order := cond("x", impl.CoEq), cond("one", impl.CoEq, textAtom("a")), cond("many", impl.CoLt, intAtom(1))
	both := cond("x", impl.CoLt, textAtom("a"))
	condCodeIs(t, "no column, another kind", x, both, impl.ErrColumn, impl.OK)
	for _, c := range []struct {
		list []impl.Cond
		code int
	}{
		{conds(column), impl.ErrColumn}, {conds(kind), impl.ErrType}, {conds(order), impl.ErrType}, {conds(both), impl.ErrColumn},
		{conds(yes, column), impl.ErrColumn}, {conds(no, column), impl.ErrColumn}, {conds(no, kind), impl.ErrType}, {conds(no, order), impl.ErrType}, {conds(column, no), impl.ErrColumn},
		{conds(column, kind), impl.ErrColumn}, {conds(kind, column), impl.ErrType}, {conds(order, column), impl.ErrType}, {conds(yes, order, both), impl.ErrType}, {conds(no, both, kind), impl.ErrColumn},
		{conds(no, no, no, no, no, no, no, kind), impl.ErrType}, {conds(yes, yes, yes, yes, yes, yes, yes, column), impl.ErrColumn},
	} {
		matchAllIs(t, "the first code", x, r, c.list, false, c.code)
		selectIs(t, "the first code", s, store(9, rows(r)), 0, c.list, nil, c.code)
		selectIs(t, "the first code, no rows", s, store(9, nil), 0, c.list, nil, c.code)
		for _, place := range []int{-1, 1} {
			selectIs(t, "no table", s, store(9, rows(r)), place, c.list, nil, impl.ErrTable)
		}
		matchAllIs(t, "a wrong row", x, impl.Row{}, c.list, false, impl.ErrBad)
		matchAllIs(t, "a wrong table", impl.Table{}, r, c.list, false, impl.ErrBad)
		selectIs(t, "a wrong store", s, store(7, rows(r)), 0, c.list, nil, impl.ErrBad)
	}
}

func TestConditionsOnTables(t *testing.T) {
	anyId := cond("_uuid", impl.CoNe, idAtom(9))
	for name, x := range rightTables() {
		r := row(1)
		for _, c := range x.Columns {
			d, _ := impl.DefaultOf(c)
			r.Cells = append(r.Cells, d)
		}
		if name == "_uuid" {
			continue
		}
		condCodeIs(t, name, x, anyId, impl.OK, impl.OK)
		matchIs(t, name, x, r, anyId, true, impl.OK)
		matchAllIs(t, name, x, r, nil, true, impl.OK)
	}
	for name, x := range wrongTables() {
		r := row(1, make([][]impl.Atom, len(x.Columns))...)
		for _, c := range conds(anyId, cond("x", impl.CoEq), cond("c0", impl.CoLt, intAtom(1)), impl.Cond{}) {
			condCodeIs(t, name, x, c, impl.OK, impl.ErrBad)
			matchIs(t, name, x, r, c, false, impl.ErrBad)
		}
		matchAllIs(t, name, x, r, nil, false, impl.ErrBad)
		matchAllIs(t, name, x, row(1), nil, false, impl.ErrBad)
	}
	elsewhere := table("t", refColumn(1, "u", true))
	matchIs(t, "a table that refers elsewhere", elsewhere, row(1, ids(9)), cond("r", impl.CoEq, idAtom(9)), true, impl.OK)
}

// A row that does not fit is ErrBad, also where a condition would have a code, or asks for nothing that is wrong.
func TestConditionsOnWrongRows(t *testing.T) {
	x := kindsTable()
	list := [][]impl.Cond{nil, {cond("b", impl.CoEq, boolAtom(1))}, {cond("_uuid", impl.CoIncludes)}, {cond("x", impl.CoEq)}, {cond("b", impl.CoLt)}}
	for _, c := range cellCases() {
		r := kindsRow(7)
		r.Cells[c.column] = c.cell
		for i, asked := range list {
			want := []int{impl.OK, impl.OK, impl.OK, impl.ErrColumn, impl.ErrType}[i]
			if c.fits != impl.OK {
				want = impl.ErrBad
			}
			if _, code := impl.MatchesAll(x, r, asked); code != want {
				t.Errorf("MatchesAll of %s in column %d and %s has the code %d, not %d", brief(c.cell), c.column, brief(asked), code, want)
			}
			y := store(9, rows(kindsRow(6), r, kindsRow(8)))
			if _, code := impl.SelectIds(schema(x), y, 0, asked); code != want {
				t.Errorf("SelectIds of %s in column %d and %s has the code %d, not %d", brief(c.cell), c.column, brief(asked), code, want)
			}
		}
	}
	for _, id := range []int{1, 999999, 1000000} {
		matchIs(t, fmt.Sprintf("Id %d", id), x, kindsRow(id), cond("b", impl.CoEq, boolAtom(1)), true, impl.OK)
		matchAllIs(t, fmt.Sprintf("Id %d", id), x, kindsRow(id), nil, true, impl.OK)
	}
	for _, id := range []int{math.MinInt, -1, 0, 1000001, math.MaxInt} {
		matchIs(t, fmt.Sprintf("Id %d", id), x, kindsRow(id), cond("b", impl.CoEq, boolAtom(1)), false, impl.ErrBad)
		matchIs(t, fmt.Sprintf("Id %d", id), x, kindsRow(id), cond("x", impl.CoEq), false, impl.ErrBad)
		matchAllIs(t, fmt.Sprintf("Id %d", id), x, kindsRow(id), nil, false, impl.ErrBad)
	}
	full := kindsRow(7)
	for count := range full.Cells {
		matchAllIs(t, "fewer cells", x, row(7, full.Cells[:count]...), nil, false, impl.ErrBad)
	}
	matchAllIs(t, "a cell more", x, row(7, append(full.Cells, nil)...), nil, false, impl.ErrBad)
}

func TestPlacesOfAskedTables(t *testing.T) {
	s, x := impl.PlainSchema(), smallStore()
	for table, want := range [][]int{{5, 9}, {2, 7}, {3, 8}} {
		selectIs(t, "all rows", s, x, table, nil, want, impl.OK)
		selectIs(t, "no rows", s, store(1, nil, nil, nil), table, nil, nil, impl.OK)
		selectIs(t, "no rows", s, store(1, rows(), rows(), rows()), table, conds(cond("name", impl.CoEq, textAtom("n"))), nil, impl.OK)
		selectIs(t, "no rows, no column", s, store(1, nil, nil, nil), table, conds(cond("x", impl.CoEq)), nil, impl.ErrColumn)
		selectIs(t, "no rows, another kind", s, store(1, nil, nil, nil), table, conds(cond("name", impl.CoEq, intAtom(1))), nil, impl.ErrType)
	}
	for _, table := range []int{math.MinInt, -1, 3, 4, 1 << 32, math.MaxInt} {
		selectIs(t, "no table", s, x, table, nil, nil, impl.ErrTable)
		selectIs(t, "no table, no column", s, x, table, conds(cond("x", impl.CoEq)), nil, impl.ErrTable)
		selectIs(t, "no table, a wrong condition", s, x, table, make([]impl.Cond, 1), nil, impl.ErrBad)
		selectIs(t, "no table, no store", s, impl.Store{}, table, nil, nil, impl.ErrBad)
		selectIs(t, "no table, no schema", impl.Schema{}, x, table, nil, nil, impl.ErrBad)
		selectIs(t, "nothing", impl.Schema{}, impl.Store{}, table, nil, nil, impl.ErrBad)
	}
	selectIs(t, "a name", s, x, 0, conds(cond("name", impl.CoEq, textAtom("n"))), []int{5, 9}, impl.OK)
	selectIs(t, "a reference", s, x, 0, conds(cond("about", impl.CoIncludes, idAtom(7))), []int{5}, impl.OK)
	selectIs(t, "no reference", s, x, 0, conds(cond("about", impl.CoEq)), []int{9}, impl.OK)
	selectIs(t, "cells with nothing", s, x, 1, conds(cond("tag", impl.CoGe, intAtom(0))), nil, impl.OK)
	selectIs(t, "a column of another table", s, x, 1, conds(cond("about", impl.CoEq)), nil, impl.ErrColumn)
	selectIs(t, "an Id", s, x, 2, conds(cond("_uuid", impl.CoEq, idAtom(8))), []int{8}, impl.OK)
	selectIs(t, "an Id of another table", s, x, 2, conds(cond("_uuid", impl.CoEq, idAtom(2))), nil, impl.OK)
	selectIs(t, "full tables", schema(kindsTable()), store(13, someRows(12)), 0, conds(cond("n", impl.CoIncludes, intAtom(1))), []int{1, 2, 3, 4, 5, 6, 7, 8, 9, 10, 11, 12}, impl.OK)
}

// A store must fit, in tables that are not asked too; it need not be right.
func TestConditionsOnStores(t *testing.T) {
	s, x := impl.PlainSchema(), smallStore()
	for what, y := range map[string]impl.Store{
		"nothing": {}, "Next 0": withNext(x, 0), "Next below an Id": withNext(x, 9), "Next beyond": withNext(x, 1000001), "a table less": store(20, x.Tables[:2]...), "a table more": store(20, append(copyStore(x).Tables, nil)...),
		"Ids that fall": withRow(x, 0, 0, noteRow(6, "n")), "an Id twice": withRow(x, 2, 1, switchRow(3, "s")), "an Id of 0": withRow(x, 1, 0, portRow(0, "p")), "13 rows": withTable(x, 0, noteRows(13)),
		"a cell that does not fit": withCell(x, 2, 1, 1, nil), "a number out of bounds": withCell(x, 2, 1, 1, atoms(intAtom(1001))), "another kind": withCell(x, 0, 0, 1, atoms(intAtom(2))), "no set": withCell(x, 0, 0, 1, ids(7, 2)),
	} {
		for table := -1; table < 4; table++ {
			selectIs(t, what, s, y, table, nil, nil, impl.ErrBad)
			selectIs(t, what, s, y, table, conds(cond("x", impl.CoEq)), nil, impl.ErrBad)
		}
	}
	for what, y := range map[string]impl.Store{
		"an Id in two tables": withRow(x, 2, 0, switchRow(2, "u")), "a row that nobody has": withCell(x, 0, 0, 1, ids(19)), "a port that nobody holds": withRow(x, 1, 2, portRow(11, "r")), "two alike": withRow(x, 1, 2, portRow(11, "p")),
	} {
		if impl.StoreOK(s, y) {
			t.Fatalf("%s: StoreOK is true", what)
		}
		selectIs(t, what, s, y, 0, conds(cond("name", impl.CoEq, textAtom("n"))), []int{5, 9}, impl.OK)
	}
	for _, wrong := range someSchemas() {
		if !impl.SchemaOK(wrong) {
			selectIs(t, "a wrong schema", wrong, store(1, make([][]impl.Row, len(wrong.Tables))...), 0, nil, nil, impl.ErrBad)
		}
	}
	elsewhere := impl.PlainSchema()
	elsewhere.Tables[0].Columns[1].Ref = "ports"
	selectIs(t, "a Ref to no table", elsewhere, x, 2, nil, nil, impl.ErrBad)
}

// withTable answers a store with other rows in one table.
func withTable(x impl.Store, table int, list []impl.Row) impl.Store {
	made := copyStore(x)
	made.Tables[table] = list
	return made
}

// noteRows answers so many rows of notes, with Ids from 1 on.
func noteRows(count int) []impl.Row {
	var list []impl.Row
	for i := range count {
		list = append(list, noteRow(i+1, "n"))
	}
	return list
}
