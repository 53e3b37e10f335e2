package tests

import (
	"fmt"
	"math"
	"slices"
	"strings"
	"testing"

	"loop.example/g00524/impl"
)

// pickIs tells what PickColumns answers.
func pickIs(t *testing.T, what string, x impl.Table, r impl.Row, names []string, want impl.Row, wantCode int) {
	t.Helper()
	if got, code := impl.PickColumns(x, r, names); !alikeRows(got, want) || code != wantCode {
		t.Errorf("%s: PickColumns(%s, %s) is %s, %d, not %s, %d", what, brief(r), brief(names), brief(got), code, brief(want), wantCode)
	}
}

// setRowIs tells what SetRow answers.
func setRowIs(t *testing.T, what string, x impl.Table, r impl.Row, list []impl.Set, want impl.Row, wantCode int) {
	t.Helper()
	if got, code := impl.SetRow(x, r, list); !alikeRows(got, want) || code != wantCode {
		t.Errorf("%s: SetRow(%s, %s) is %s, %d, not %s, %d", what, brief(r), brief(list), brief(got), code, brief(want), wantCode)
	}
}

// freshIs tells what FreshRow answers.
func freshIs(t *testing.T, what string, x impl.Table, id int, want impl.Row, wantCode int) {
	t.Helper()
	if got, code := impl.FreshRow(x, id); !alikeRows(got, want) || code != wantCode {
		t.Errorf("%s: FreshRow(%d) is %s, %d, not %s, %d", what, id, brief(got), code, brief(want), wantCode)
	}
}

// fullRow is a row of askedTable with something in each cell.
func fullRow(id int) impl.Row {
	return row(id, numbersOf(1), numbersOf(5), ints(1, 4), word("a"), atoms(boolAtom(1)), ids(3, 4))
}

func TestPickedColumns(t *testing.T) {
	x, r := askedTable(), fullRow(7)
	for _, none := range [][]string{nil, {}} {
		pickIs(t, "no column", x, r, none, row(7), impl.OK)
	}
	var all []string
	for i, c := range x.Columns {
		all = append(all, c.Name)
		pickIs(t, "one column", x, r, []string{c.Name}, row(7, r.Cells[i]), impl.OK)
		pickIs(t, "one column twice", x, r, []string{c.Name, c.Name}, row(7, r.Cells[i], r.Cells[i]), impl.OK)
		pickIs(t, "one column and the Id", x, r, []string{c.Name, "_uuid"}, row(7, r.Cells[i], ids(7)), impl.OK)
		pickIs(t, "the Id and one column", x, r, []string{"_uuid", c.Name}, row(7, ids(7), r.Cells[i]), impl.OK)
		pickIs(t, "one column of nothing", x, askedRow(9, "must", intAtom(0)), []string{c.Name}, row(9, askedRow(9, "").Cells[i]), impl.OK)
	}
	pickIs(t, "all columns", x, r, all, r, impl.OK)
	pickIs(t, "all columns and the Id", x, r, append(slices.Clone(all), "_uuid"), row(7, append(slices.Clone(r.Cells), ids(7))...), impl.OK)
	backward, cells := slices.Clone(all), slices.Clone(r.Cells)
	slices.Reverse(backward)
	slices.Reverse(cells)
	pickIs(t, "all columns, the last one first", x, r, backward, row(7, cells...), impl.OK)
	for _, id := range []int{1, 999999, 1000000} {
		pickIs(t, "the Id", x, fullRow(id), []string{"_uuid", "_uuid"}, row(id, ids(id), ids(id)), impl.OK)
	}
}

func TestNamesOfPickedColumns(t *testing.T) {
	long := strings.Repeat("n", impl.MaxName)
	x := table("t", called(textColumn(0, 1), long), called(textColumn(0, 1), "N"))
	r := row(7, word("a"), word("b"))
	for name, cell := range map[string][]impl.Atom{
		long: word("a"), "N": word("b"), "_uuid": ids(7),
		"": nil, "n": nil, "t": nil, "9": nil, "N ": nil, "\xff": nil, "uuid": nil, "_Uuid": nil, long[1:]: nil, long + "n": nil, strings.Repeat("\x00", 41): nil, strings.Repeat("n", impl.MaxText): nil, strings.Repeat("n", impl.MaxText+1): nil,
	} {
		if cell == nil {
			for _, names := range [][]string{{name}, {"N", name}, {name, "N"}, {"_uuid", name}, {name, name}, append(slices.Repeat([]string{"N"}, impl.MaxList-1), name)} {
				pickIs(t, "no column", x, r, names, impl.Row{}, impl.ErrColumn)
			}
			continue
		}
		pickIs(t, "a column", x, r, []string{name}, row(7, cell), impl.OK)
	}
}

// A column that is called as the Id is picked in its place, of whatever kind it is.
func TestPickedColumnsThatAreCalledAsTheId(t *testing.T) {
	own := table("t", textColumn(0, 1), called(intColumn(0, 1, 0, 9), "_uuid"))
	pickIs(t, "a number", own, row(7, word("a"), numbersOf(5)), []string{"_uuid", "t"}, row(7, numbersOf(5), word("a")), impl.OK)
	pickIs(t, "nothing", own, row(7, word("a"), nil), []string{"_uuid"}, row(7, nil), impl.OK)
	ref := table("t", called(refColumn(8, "t", false), "_uuid"))
	pickIs(t, "rows", ref, row(7, ids(3, 9)), []string{"_uuid"}, row(7, ids(3, 9)), impl.OK)
	pickIs(t, "no rows", ref, row(7, nil), []string{"_uuid"}, row(7, nil), impl.OK)
}

func TestHowManyColumnsArePicked(t *testing.T) {
	x, r := askedTable(), fullRow(7)
	for count, code := range map[int]int{1: impl.OK, 6: impl.OK, 7: impl.OK, 8: impl.OK, 9: impl.OK, impl.MaxList: impl.OK, impl.MaxList + 1: impl.ErrLong, impl.MaxList * 3: impl.ErrLong} {
		what := fmt.Sprintf("%d columns", count)
		names, want := slices.Repeat([]string{"many"}, count), impl.Row{}
		if code == impl.OK {
			want = row(7, slices.Repeat([][]impl.Atom{ints(1, 4)}, count)...)
		}
		pickIs(t, what, x, r, names, want, code)
		wrong := func(otherwise int) int { return map[bool]int{true: otherwise, false: code}[code == impl.OK] }
		pickIs(t, what+", none there", x, r, make([]string, count), impl.Row{}, wrong(impl.ErrColumn))
		pickIs(t, what+", a wrong row", x, impl.Row{}, names, impl.Row{}, wrong(impl.ErrBad))
		pickIs(t, what+", a wrong table", impl.Table{}, r, names, impl.Row{}, wrong(impl.ErrBad))
		pickIs(t, what+", none there, a wrong row", x, impl.Row{}, make([]string, count), impl.Row{}, wrong(impl.ErrBad))
	}
}

func TestCellsThatAreSet(t *testing.T) {
	x, r := askedTable(), fullRow(7)
	for _, none := range [][]impl.Set{nil, {}} {
		setRowIs(t, "no set", x, r, none, r, impl.OK)
	}
	others := [][]impl.Atom{numbersOf(-9), numbersOf(top), ints(-4, 4), atoms(textAtom(""), textAtom("b")), atoms(boolAtom(0), boolAtom(1)), ids(1, 2, 3, 4, 5, 6, 7, 1000000)}
	var all []impl.Set
	for i, c := range x.Columns {
		want := copyRow(r)
		want.Cells[i] = others[i]
		setRowIs(t, "one set", x, r, sets(set(c.Name, others[i]...)), want, impl.OK)
		setRowIs(t, "what is there", x, r, sets(set(c.Name, r.Cells[i]...)), r, impl.OK)
		for _, none := range []impl.Set{set(c.Name), {Column: c.Name, Value: atoms(), Names: []string{}}} {
			want := copyRow(r)
			want.Cells[i] = nil
			if c.Min == 1 {
				setRowIs(t, "nothing where one must be", x, r, sets(none), impl.Row{}, impl.ErrMany)
			} else {
				setRowIs(t, "nothing", x, r, sets(none), want, impl.OK)
			}
		}
		all = append(all, set(c.Name, others[i]...))
	}
	setRowIs(t, "all sets", x, r, all, row(7, others...), impl.OK)
	slices.Reverse(all)
	setRowIs(t, "all sets, the last one first", x, r, all, row(7, others...), impl.OK)
	for _, id := range []int{1, 999999, 1000000} {
		setRowIs(t, "an Id", x, fullRow(id), all, row(id, others...), impl.OK)
	}
}

// The codes of Row are those of operations; a set by Names is not right here.
func TestCodesOfSetRow(t *testing.T) {
	x, r := askedTable(), fullRow(7)
	for _, c := range rowCases() {
		code := c.code
		for _, one := range c.list {
			if len(one.Names) > 0 {
				code = impl.ErrBad
			}
		}
		if code == impl.OK {
			continue
		}
		setRowIs(t, "a Row with a code", x, r, c.list, impl.Row{}, code)
		setRowIs(t, "a Row with a code, a wrong row", x, impl.Row{}, c.list, impl.Row{}, impl.ErrBad)
		setRowIs(t, "a Row with a code, a wrong table", impl.Table{}, r, c.list, impl.Row{}, impl.ErrBad)
	}
	own := table("t", textColumn(0, 1), called(intColumn(0, 1, 0, 9), "_uuid"))
	setRowIs(t, "the Id", x, r, sets(set("_uuid", idAtom(7))), impl.Row{}, impl.ErrColumn)
	setRowIs(t, "the Id, to nothing", x, r, sets(set("_uuid")), impl.Row{}, impl.ErrColumn)
	setRowIs(t, "a column that is called as the Id", own, row(7, nil, nil), sets(set("_uuid", intAtom(5))), row(7, nil, numbersOf(5)), impl.OK)
	setRowIs(t, "a column that is called as the Id", own, row(7, nil, nil), sets(set("_uuid", idAtom(7))), impl.Row{}, impl.ErrType)
}

// What is set must fit, which is asked of all sets behind the codes of Row, set by set.
func TestWhatIsSetFits(t *testing.T) {
	x := kindsTable()
	for _, c := range cellCases() {
		want, code := kindsRow(7), c.fits
		want.Cells[c.column] = c.cell
		if code == impl.ErrLong {
			code = impl.ErrBad
		}
		if code != impl.OK {
			want = impl.Row{}
		}
		one := set(x.Columns[c.column].Name, c.cell...)
		what := fmt.Sprintf("%s in column %d", brief(c.cell), c.column)
		setRowIs(t, what, x, kindsRow(7), sets(one), want, code)
		if c.column != 3 {
			more := copyRow(want)
			if code == impl.OK {
				more.Cells[3] = ids(7)
			}
			setRowIs(t, what+", first", x, kindsRow(7), sets(one, set("r", idAtom(7))), more, code)
			setRowIs(t, what+", last", x, kindsRow(7), sets(set("r", idAtom(7)), one), more, code)
		}
	}
	many, few, beyond, below, kind, column := set("n", ints(0, 3)...), set("t"), set("n", intAtom(6)), set("n", intAtom(-6)), set("b", intAtom(1)), set("x")
	for _, c := range []struct {
		list []impl.Set
		code int
	}{
		{sets(many), impl.ErrMany}, {sets(few), impl.ErrMany}, {sets(beyond), impl.ErrRange}, {sets(below), impl.ErrRange}, {sets(beyond, few), impl.ErrRange}, {sets(few, beyond), impl.ErrMany}, {sets(set("r"), few, beyond), impl.ErrMany}, {sets(set("r"), below, few), impl.ErrRange},
		{sets(beyond, kind), impl.ErrType}, {sets(few, column), impl.ErrColumn}, {sets(few, beyond, kind), impl.ErrType}, {sets(beyond, set("n", intAtom(1))), impl.ErrTwice}, {sets(few, kind, column), impl.ErrType}, {sets(few, column, kind), impl.ErrColumn}, {sets(kind, few), impl.ErrType},
		{sets(few, set("n", intAtom(2), intAtom(1))), impl.ErrBad}, {sets(column, set("n", intAtom(2), intAtom(1))), impl.ErrBad}, {sets(kind, naming("r", "p")), impl.ErrBad}, {sets(set("n", ints(0, 8)...)), impl.ErrMany}, {sets(set("n", ints(6, 9)...)), impl.ErrMany}, {sets(set("n", ints(5, 7)...)), impl.ErrRange},
	} {
		setRowIs(t, "what does not fit", x, kindsRow(7), c.list, impl.Row{}, c.code)
	}
}

// wrongSetsOfRows are sets that are not right in SetRow, whatever the table.
func wrongSetsOfRows() map[string]impl.Set {
	wrong := map[string]impl.Set{
		"a long Column": set(endlessName[:impl.MaxName+1]), "a Column beyond MaxText": set(endlessName, intAtom(1)), "a name": naming("ref", "p"), "eight names": naming("ref", "a", "b", "c", "d", "e", "f", "g", "h"), "nine names": naming("ref", slices.Repeat([]string{"p"}, 9)...), "no name": naming("ref", "9"), "an empty name": naming("ref", ""),
		"a name where no column is": naming("x", "p"), "a name in a column of numbers": naming("one", "p"), "a name beside a Value": {Column: "ref", Value: ids(1), Names: []string{"p"}}, "a name beside a Value of another kind": {Column: "ref", Value: word("a"), Names: []string{"p"}},
	}
	for what, d := range wrongSets() {
		wrong[what] = set("many", d...)
		wrong[what+", no column"] = set("x", d...)
	}
	return wrong
}

func TestWrongSetsOfRows(t *testing.T) {
	x, r := askedTable(), fullRow(7)
	right, column, kind, beyond := set("one", intAtom(1)), set("x"), set("text", intAtom(1)), set("one", intAtom(99))
	for what, wrong := range wrongSetsOfRows() {
		for _, list := range [][]impl.Set{{wrong}, {right, wrong}, {wrong, right}, {column, wrong}, {wrong, column}, {kind, wrong}, {wrong, kind}, {beyond, wrong}, {wrong, wrong}, {right, right, right, right, right, wrong}} {
			setRowIs(t, what, x, r, list, impl.Row{}, impl.ErrBad)
		}
	}
	setRowIs(t, "a Column of MaxName bytes", x, r, sets(set(endlessName[:impl.MaxName])), impl.Row{}, impl.ErrColumn)
	long := table("t", called(textColumn(0, 1), endlessName[:impl.MaxName]))
	setRowIs(t, "a Column of MaxName bytes", long, row(7, nil), sets(set(endlessName[:impl.MaxName], textAtom("a"))), row(7, word("a")), impl.OK)
}

func TestHowManyCellsAreSet(t *testing.T) {
	x := table("t", columns(impl.MaxColumns)...)
	r := row(7, make([][]impl.Atom, impl.MaxColumns)...)
	for _, count := range []int{1, 5, 6, 7, 8, 9, 12, impl.MaxList, impl.MaxList + 1, impl.MaxList * 3} {
		what := fmt.Sprintf("%d sets", count)
		var list []impl.Set
		want, code := copyRow(r), impl.OK
		for i := range count {
			list = append(list, set(fmt.Sprint("c", i%6), textAtom("a")))
			want.Cells[i%6] = word("a")
		}
		if count > impl.MaxColumns {
			want, code = impl.Row{}, impl.ErrBad
		}
		if count > impl.MaxList {
			code = impl.ErrLong
		}
		setRowIs(t, what, x, r, list, want, code)
		setRowIs(t, what+", no column", x, r, make([]impl.Set, count), impl.Row{}, max(code, map[bool]int{true: impl.ErrColumn}[code == impl.OK]))
		setRowIs(t, what+", wrong ones", x, r, slices.Repeat(sets(naming("c0", "9")), count), impl.Row{}, max(code, impl.ErrBad))
		setRowIs(t, what+", a wrong row", x, impl.Row{}, list, impl.Row{}, max(code, impl.ErrBad))
		setRowIs(t, what+", a wrong table", impl.Table{}, r, list, impl.Row{}, max(code, impl.ErrBad))
	}
}

// A table or a row that is not right is ErrBad ahead of all codes, also where what is set would make the row fit.
func TestRowsAndTablesThatAreWrong(t *testing.T) {
	x := kindsTable()
	for _, c := range cellCases() {
		r := kindsRow(7)
		r.Cells[c.column] = c.cell
		mended := sets(set(x.Columns[c.column].Name, kindsRow(7).Cells[c.column]...))
		if c.fits == impl.OK {
			setRowIs(t, "a row that fits", x, r, mended, kindsRow(7), impl.OK)
			pickIs(t, "a row that fits", x, r, []string{x.Columns[c.column].Name}, row(7, c.cell), impl.OK)
			continue
		}
		for _, list := range [][]impl.Set{nil, mended, {set("x")}, {set("b", intAtom(1))}, {set("t")}} {
			setRowIs(t, "a row that does not fit", x, r, list, impl.Row{}, impl.ErrBad)
		}
		for _, names := range [][]string{nil, {"b"}, {"_uuid"}, {"x"}} {
			pickIs(t, "a row that does not fit", x, r, names, impl.Row{}, impl.ErrBad)
		}
	}
	for _, id := range []int{math.MinInt, -1, 0, 1000001, math.MaxInt} {
		setRowIs(t, "a wrong Id", x, kindsRow(id), nil, impl.Row{}, impl.ErrBad)
		pickIs(t, "a wrong Id", x, kindsRow(id), []string{"_uuid"}, impl.Row{}, impl.ErrBad)
	}
	for count := range 6 {
		if count != 4 {
			r := row(7, append(kindsRow(7).Cells, nil)[:count]...)
			setRowIs(t, "too few or too many cells", x, r, sets(set("r")), impl.Row{}, impl.ErrBad)
			pickIs(t, "too few or too many cells", x, r, nil, impl.Row{}, impl.ErrBad)
		}
	}
	for name, wrong := range wrongTables() {
		r := row(1, make([][]impl.Atom, len(wrong.Columns))...)
		for _, list := range [][]impl.Set{nil, {set("c0")}, {set("x")}, {{}}} {
			setRowIs(t, name, wrong, r, list, impl.Row{}, impl.ErrBad)
		}
		for _, names := range [][]string{nil, {"c0"}, {"x"}, {"_uuid"}} {
			pickIs(t, name, wrong, r, names, impl.Row{}, impl.ErrBad)
		}
	}
	elsewhere := table("t", refColumn(2, "u", true))
	setRowIs(t, "a table that refers elsewhere", elsewhere, row(1, ids(9)), sets(set("r", ids(8)...)), row(1, ids(8)), impl.OK)
	pickIs(t, "a table that refers elsewhere", elsewhere, row(1, ids(9)), []string{"r"}, row(1, ids(9)), impl.OK)
}

func TestFreshRows(t *testing.T) {
	s := impl.PlainSchema()
	freshIs(t, "a note", s.Tables[0], 1, row(1, word(""), nil), impl.OK)
	freshIs(t, "a port", s.Tables[1], 7, row(7, word(""), nil, atoms(boolAtom(0))), impl.OK)
	freshIs(t, "a switch", s.Tables[2], 1000000, row(1000000, word(""), numbersOf(0), nil), impl.OK)
	bounds := table("t", called(intColumn(1, 1, 3, 9), "a"), called(intColumn(1, 8, -9, -3), "b"), called(intColumn(1, 1, -9, 9), "c"), called(intColumn(0, 1, 3, 9), "d"), called(boolColumn(1, 2), "e"), called(textColumn(1, 8), "f"))
	freshIs(t, "defaults within bounds", bounds, 7, row(7, numbersOf(3), numbersOf(-3), numbersOf(0), nil, atoms(boolAtom(0)), word("")), impl.OK)
	elsewhere := table("t", refColumn(2, "u", true))
	freshIs(t, "a table that refers elsewhere", elsewhere, 7, row(7, nil), impl.OK)
	for _, id := range []int{math.MinInt, -1000000, -1, 0, 1, 2, 999999, 1000000, 1000001, 1 << 32, math.MaxInt} {
		want, code := row(id, nil, numbersOf(0), nil, nil, nil, nil), impl.OK
		if id < 1 || id > 1000000 {
			want, code = impl.Row{}, impl.ErrRange
		}
		freshIs(t, "an id", askedTable(), id, want, code)
		for name, x := range wrongTables() {
			freshIs(t, name, x, id, impl.Row{}, impl.ErrBad)
		}
	}
}

// resultIs tells whether a result is right; with a code nothing stands beside it.
func resultIs(t *testing.T, what string, r impl.Result, right bool) {
	t.Helper()
	if got := impl.ResultOK(r); got != right {
		t.Errorf("%s: ResultOK(%s) is %v", what, brief(r), got)
	}
	bare := r.Code == 0 && r.Count == 0 && r.Id == 0 && len(r.Columns) == 0 && len(r.Rows) == 0
	for _, code := range []int{math.MinInt, -1, 1, 5, 19, 20, math.MaxInt} {
		r.Code = code
		if got := impl.ResultOK(r); got != (bare && code >= 1 && code <= 19) {
			t.Errorf("%s beside code %d: ResultOK(%s) is %v", what, code, brief(r), got)
		}
	}
}

func TestCodesAndNumbersOfResults(t *testing.T) {
	for _, code := range []int{math.MinInt, -19, -1, 20, 21, 1 << 32, math.MaxInt} {
		if impl.ResultOK(impl.Result{Code: code}) {
			t.Errorf("ResultOK of code %d is true", code)
		}
	}
	for code := range 20 {
		if !impl.ResultOK(impl.Result{Code: code}) {
			t.Errorf("ResultOK of code %d is false", code)
		}
	}
	resultIs(t, "nothing", impl.Result{}, true)
	resultIs(t, "empty lists", impl.Result{Columns: []string{}, Rows: rows()}, true)
	for _, n := range []int{math.MinInt, -1000000, -1000, -1, 1, 2, 999, 1000, 1001, 999999, 1000000, 1000001, math.MaxInt} {
		count, id := n >= 0 && n <= 1000, n >= 0 && n <= 1000000
		resultIs(t, "a Count", impl.Result{Count: n}, count)
		resultIs(t, "an Id", impl.Result{Id: n}, id)
		resultIs(t, "both", impl.Result{Count: n, Id: n}, count && id)
		resultIs(t, "a Count beside an Id", impl.Result{Count: n, Id: 1000000}, count)
		resultIs(t, "an Id beside a Count", impl.Result{Count: 1000, Id: n}, id)
		resultIs(t, "a Count beside rows", impl.Result{Count: n, Columns: []string{"a"}, Rows: rows(row(1, nil))}, count)
		resultIs(t, "an Id beside rows", impl.Result{Id: n, Columns: []string{"a"}, Rows: rows(row(1, nil))}, id)
	}
}

func TestColumnsOfResults(t *testing.T) {
	for name, right := range edgeNames() {
		for _, list := range [][]string{{name}, {"a", name}, {name, "a"}, {name, name}, {"a", "b", "c", "d", "e", "f", name}} {
			resultIs(t, "a column", impl.Result{Columns: list}, right)
			resultIs(t, "a column and a row", impl.Result{Columns: list, Rows: rows(row(1, make([][]impl.Atom, len(list))...))}, right)
		}
	}
	for count, right := range map[int]bool{0: true, 1: true, 6: true, 7: true, 8: false, 9: false, impl.MaxList: false, impl.MaxList + 1: false} {
		names := slices.Repeat([]string{"_uuid"}, count)
		resultIs(t, fmt.Sprintf("%d columns", count), impl.Result{Columns: names}, right)
		resultIs(t, fmt.Sprintf("%d columns and a row", count), impl.Result{Columns: names, Rows: rows(row(1, make([][]impl.Atom, count)...))}, right)
	}
}

func TestRowsOfResults(t *testing.T) {
	one := row(1, numbersOf(1), nil)
	for count, right := range map[int]bool{0: true, 1: true, 11: true, 12: true, 13: false, 14: false, impl.MaxList: false, impl.MaxList + 1: false} {
		resultIs(t, fmt.Sprintf("%d rows", count), impl.Result{Columns: []string{"a", "b"}, Rows: slices.Repeat(rows(one), count)}, right)
		resultIs(t, fmt.Sprintf("%d rows without cells", count), impl.Result{Rows: make([]impl.Row, count)}, right)
	}
	for columns := range 8 {
		names := slices.Repeat([]string{"a"}, columns)
		for cells := range 10 {
			some := row(1, make([][]impl.Atom, cells)...)
			full := row(2, make([][]impl.Atom, columns)...)
			for _, list := range [][]impl.Row{{some}, {full, some}, {some, full}, append(slices.Repeat(rows(full), 11), some)} {
				resultIs(t, fmt.Sprintf("%d columns and %d cells", columns, cells), impl.Result{Columns: names, Rows: list}, cells == columns)
			}
		}
	}
	for _, list := range [][]int{{1, 2, 3}, {3, 2, 1}, {2, 2}, {0}, {0, 0}, {-1}, {1000001}, {math.MaxInt, math.MinInt}} {
		var some []impl.Row
		for _, id := range list {
			some = append(some, row(id, numbersOf(1)))
		}
		resultIs(t, fmt.Sprint("Ids ", list), impl.Result{Columns: []string{"a"}, Rows: some}, true)
	}
	for _, d := range rightSets() {
		resultIs(t, "a set", impl.Result{Columns: []string{"a", "b"}, Rows: rows(one, row(2, nil, d), row(3, d, d))}, true)
	}
	for what, d := range wrongSets() {
		for _, list := range [][]impl.Row{{row(1, d, nil)}, {row(1, nil, d)}, {one, row(2, d, nil)}, {row(2, nil, d), one}} {
			resultIs(t, what, impl.Result{Columns: []string{"a", "b"}, Rows: list}, false)
		}
	}
}
