package tests

import (
	"fmt"
	"math"
	"slices"
	"strings"
	"testing"

	"loop.example/g00524/impl"
)

// The ends of what is a JsNumber.
const (
	bottom = -1000000000
	top    = 1000000000
)

func mut(column string, function int, value ...impl.Atom) impl.Mut {
	return impl.Mut{Column: column, Func: function, Value: value}
}

func muts(list ...impl.Mut) []impl.Mut { return list }

// numbersOf answers atoms of some numbers.
func numbersOf(list ...int) []impl.Atom {
	var d []impl.Atom
	for _, n := range list {
		d = append(d, intAtom(n))
	}
	return d
}

// wideColumn takes all numbers, so that what comes of some hangs on nothing but them.
func wideColumn(count int) impl.Column { return intColumn(0, count, bottom, top) }

// endlessName is longer than any text may be.
var endlessName = strings.Repeat("n", impl.MaxText+1)

// namedColumns are texts that a mutation's Column may have.
func namedColumns(own string) []string {
	return []string{own, "", "x", "_uuid", "9", "\xff", endlessName[:impl.MaxName], strings.Repeat("+", impl.MaxName)}
}

// longColumns are texts that no mutation's Column may have.
func longColumns() []string {
	return []string{endlessName[:impl.MaxName+1], endlessName[:68], strings.Repeat("+", 178), strings.Repeat("\xff", impl.MaxName+1), endlessName[:impl.MaxText], endlessName}
}

// mutCodeIs tells what MutCode answers.
func mutCodeIs(t *testing.T, what string, x impl.Table, m impl.Mut, want, wantCode int) {
	t.Helper()
	if first, code := impl.MutCode(x, m); first != want || code != wantCode {
		t.Errorf("%s: MutCode(%s) is %d, %d, not %d, %d", what, brief(m), first, code, want, wantCode)
	}
}

// longColumnIsBad tells that Mutate answers ErrBad of a Column that is too long, whatever else there is, but for a set that is too long.
func longColumnIsBad(t *testing.T, what string, c impl.Column, d []impl.Atom, m impl.Mut) {
	t.Helper()
	want := impl.ErrBad
	if len(d) > impl.MaxList {
		want = impl.ErrLong
	}
	for _, name := range longColumns() {
		m.Column = name
		if got, code := impl.Mutate(c, d, m); len(got) != 0 || code != want {
			t.Errorf("%s: Mutate(%s, %s, %s) with a Column of %d bytes is %s, %d, not nothing, %d", what, brief(c), brief(d), impl.MutWord(m.Func), len(name), brief(got), code, want)
		}
	}
}

// mutatedIs tells what Mutate answers, whatever the mutation's Column if it is not too long, and MutateRow of a row that has that set among others.
func mutatedIs(t *testing.T, what string, c impl.Column, d []impl.Atom, m impl.Mut, want []impl.Atom, wantCode int) {
	t.Helper()
	for _, name := range namedColumns(c.Name) {
		m.Column = name
		if got, code := impl.Mutate(c, d, m); !slices.Equal(got, want) || code != wantCode {
			t.Errorf("%s: Mutate(%s, %s, %s) is %s, %d, not %s, %d", what, brief(c), brief(d), brief(m), brief(got), code, brief(want), wantCode)
		}
	}
	longColumnIsBad(t, what, c, d, m)
	if fit, code := impl.Fits(c, d); fit != impl.OK || code != impl.OK {
		return
	}
	m.Column = c.Name
	x := table("t", called(textColumn(0, 1), "ahead"), c, called(intColumn(0, 8, -9, 9), "behind"))
	wantRow := impl.Row{}
	if wantCode == impl.OK {
		wantRow = row(7, word("a"), want, ints(1, 4))
	}
	rowIs(t, what, x, row(7, word("a"), d, ints(1, 4)), muts(m), wantRow, wantCode)
}

// rowIs tells what MutateRow answers.
func rowIs(t *testing.T, what string, x impl.Table, r impl.Row, list []impl.Mut, want impl.Row, wantCode int) {
	t.Helper()
	if got, code := impl.MutateRow(x, r, list); !alikeRows(got, want) || code != wantCode {
		t.Errorf("%s: MutateRow(%s, %s) is %s, %d, not %s, %d", what, brief(r), brief(list), brief(got), code, brief(want), wantCode)
	}
}

func TestMutationsAndTheirWords(t *testing.T) {
	functions := []int{impl.MuAdd, impl.MuSub, impl.MuMul, impl.MuDiv, impl.MuMod, impl.MuInsert, impl.MuDelete}
	wordsAre(t, "+= -= *= /= %= insert delete", functions, impl.MutWord, impl.MutOf, "+", "-", "=+", "==", "!=", "<=", "++", "Insert", "DELETE", "inserts", "delet", "includes", "excludes")
}

// noNumber stands for what is no JsNumber, or is not at all.
const noNumber = math.MaxInt

// twoNumbers tells what comes of a number and another one.
func twoNumbers(t *testing.T, function, n, by, want int) {
	t.Helper()
	made, code := numbersOf(want), impl.OK
	if want == noNumber {
		made, code = nil, impl.ErrRange
	}
	for _, count := range []int{1, 3, 8} {
		mutatedIs(t, fmt.Sprintf("%d %s %d", n, impl.MutWord(function), by), wideColumn(count), numbersOf(n), mut("n", function, intAtom(by)), made, code)
	}
}

func TestQuotientsAndRests(t *testing.T) {
	for _, c := range []struct{ n, by, quotient, rest int }{
		{7, 2, 3, 1}, {-7, 2, -3, -1}, {7, -2, -3, 1}, {-7, -2, 3, -1},
		{8, 2, 4, 0}, {-8, 2, -4, 0}, {8, -2, -4, 0}, {-8, -2, 4, 0},
		{1, 2, 0, 1}, {-1, 2, 0, -1}, {1, -2, 0, 1}, {-1, -2, 0, -1}, {1, 3, 0, 1}, {-1, 3, 0, -1}, {5, 3, 1, 2}, {-5, 3, -1, -2}, {5, -3, -1, 2}, {-5, -3, 1, -2},
		{0, 1, 0, 0}, {0, -1, 0, 0}, {0, 2, 0, 0}, {0, top, 0, 0}, {0, bottom, 0, 0},
		{7, 1, 7, 0}, {-7, 1, -7, 0}, {7, -1, -7, 0}, {-7, -1, 7, 0}, {7, 7, 1, 0}, {-7, 7, -1, 0}, {7, -7, -1, 0}, {-7, -7, 1, 0}, {7, 8, 0, 7}, {-7, 8, 0, -7}, {7, -8, 0, 7}, {-7, -8, 0, -7},
		{top, 1, top, 0}, {top, -1, bottom, 0}, {bottom, 1, bottom, 0}, {bottom, -1, top, 0}, {top, top, 1, 0}, {top, bottom, -1, 0}, {bottom, top, -1, 0}, {bottom, bottom, 1, 0},
		{top, 3, 333333333, 1}, {bottom, 3, -333333333, -1}, {top, -3, -333333333, 1}, {bottom, -3, 333333333, -1}, {999999999, top, 0, 999999999}, {-999999999, top, 0, -999999999}, {top, 999999999, 1, 1}, {bottom, 999999999, -1, -1},
		{7, 0, noNumber, noNumber}, {-7, 0, noNumber, noNumber}, {0, 0, noNumber, noNumber}, {1, 0, noNumber, noNumber}, {top, 0, noNumber, noNumber}, {bottom, 0, noNumber, noNumber},
	} {
		twoNumbers(t, impl.MuDiv, c.n, c.by, c.quotient)
		twoNumbers(t, impl.MuMod, c.n, c.by, c.rest)
	}
}

// Products that would be a number of 32 bits again if they wrapped are none either.
func TestSumsDifferencesAndProducts(t *testing.T) {
	for _, c := range []struct{ n, by, sum, difference, product int }{
		{0, 0, 0, 0, 0}, {7, 0, 7, 7, 0}, {0, 7, 7, -7, 0}, {7, 2, 9, 5, 14}, {-7, 2, -5, -9, -14}, {7, -2, 5, 9, -14}, {-7, -2, -9, -5, 14}, {7, 1, 8, 6, 7}, {7, -1, 6, 8, -7}, {-7, -1, -8, -6, 7},
		{top, 0, top, top, 0}, {bottom, 0, bottom, bottom, 0}, {top, 1, noNumber, 999999999, top}, {top, -1, 999999999, noNumber, bottom}, {bottom, 1, -999999999, noNumber, bottom}, {bottom, -1, noNumber, -999999999, top},
		{999999999, 1, top, 999999998, 999999999}, {-999999999, -1, bottom, -999999998, 999999999}, {999999999, 2, noNumber, 999999997, noNumber}, {-999999999, -2, noNumber, -999999997, noNumber},
		{top, top, noNumber, 0, noNumber}, {top, bottom, 0, noNumber, noNumber}, {bottom, top, 0, noNumber, noNumber}, {bottom, bottom, noNumber, 0, noNumber}, {0, top, top, bottom, 0}, {0, bottom, bottom, top, 0}, {1, top, noNumber, -999999999, top}, {-1, top, 999999999, noNumber, bottom},
		{500000000, 500000000, top, 0, noNumber}, {500000000, 2, 500000002, 499999998, top}, {500000000, -2, 499999998, 500000002, bottom}, {500000001, 2, 500000003, 499999999, noNumber}, {500000001, -2, 499999999, 500000003, noNumber},
		{31622, 31622, 63244, 0, 999950884}, {31623, 31623, 63246, 0, noNumber}, {-31623, 31623, 0, -63246, noNumber}, {65536, 65536, 131072, 0, noNumber}, {65536, -65536, 0, 131072, noNumber}, {1 << 29, 1 << 29, noNumber, 0, noNumber}, {1 << 29, 8, 1<<29 + 8, 1<<29 - 8, noNumber},
	} {
		twoNumbers(t, impl.MuAdd, c.n, c.by, c.sum)
		twoNumbers(t, impl.MuSub, c.n, c.by, c.difference)
		twoNumbers(t, impl.MuMul, c.n, c.by, c.product)
	}
}

func TestNumbersThatBecomeAlike(t *testing.T) {
	for _, c := range []struct {
		d        []impl.Atom
		function int
		by       int
		want     []impl.Atom
	}{
		{ints(-4, 4), impl.MuMul, 0, numbersOf(0)}, {ints(-4, 4), impl.MuMul, -1, ints(-3, 5)}, {ints(-4, 4), impl.MuMul, -2, numbersOf(-6, -4, -2, 0, 2, 4, 6, 8)}, {ints(-4, 4), impl.MuMul, 1, ints(-4, 4)},
		{ints(-4, 4), impl.MuDiv, 2, ints(-2, 2)}, {ints(-4, 4), impl.MuDiv, -2, ints(-1, 3)}, {ints(-4, 4), impl.MuDiv, 3, ints(-1, 2)}, {ints(-4, 4), impl.MuDiv, 5, numbersOf(0)}, {ints(-4, 4), impl.MuDiv, -1, ints(-3, 5)},
		{ints(-4, 4), impl.MuMod, 2, ints(-1, 2)}, {ints(-4, 4), impl.MuMod, -2, ints(-1, 2)}, {ints(-4, 4), impl.MuMod, 1, numbersOf(0)}, {ints(-4, 4), impl.MuMod, -1, numbersOf(0)}, {ints(-4, 4), impl.MuMod, 3, ints(-2, 3)}, {ints(-4, 4), impl.MuMod, 9, ints(-4, 4)},
		{numbersOf(8, 9, 10, 11), impl.MuMod, 10, numbersOf(0, 1, 8, 9)}, {numbersOf(-11, -10, 9, 10, 11), impl.MuMod, 10, numbersOf(-1, 0, 1, 9)}, {numbersOf(-9, 9), impl.MuDiv, 10, numbersOf(0)}, {numbersOf(bottom, top), impl.MuMul, 0, numbersOf(0)},
		{numbersOf(bottom, 0, top), impl.MuMul, -1, numbersOf(bottom, 0, top)}, {numbersOf(bottom, top), impl.MuMod, 3, numbersOf(-1, 1)}, {numbersOf(1, 2, 3), impl.MuAdd, -2, numbersOf(-1, 0, 1)}, {numbersOf(1, 2, 3), impl.MuSub, 2, numbersOf(-1, 0, 1)},
	} {
		mutatedIs(t, "several numbers", wideColumn(8), c.d, mut("n", c.function, intAtom(c.by)), c.want, impl.OK)
		if len(c.want) < len(c.d) {
			mutatedIs(t, "as many as there may be", wideColumn(len(c.d)), c.d, mut("n", c.function, intAtom(c.by)), c.want, impl.OK)
		}
	}
	for _, function := range []int{impl.MuDiv, impl.MuMod} {
		mutatedIs(t, "several by 0", wideColumn(8), ints(-4, 4), mut("n", function, intAtom(0)), nil, impl.ErrRange)
	}
	for place := range 8 {
		d := ints(0, 8)
		d[7].N = top - place
		mutatedIs(t, "the last one is beyond", wideColumn(8), d, mut("n", impl.MuAdd, intAtom(place+1)), nil, impl.ErrRange)
		mutatedIs(t, "the last one is not", wideColumn(8), d, mut("n", impl.MuAdd, intAtom(place)), append(ints(place, place+7), intAtom(top)), impl.OK)
	}
}

// Where there is no number none is made, and none is divided by 0.
func TestMutationsOfNothing(t *testing.T) {
	for _, none := range [][]impl.Atom{nil, {}} {
		for function := impl.MuAdd; function <= impl.MuMod; function++ {
			for _, by := range []int{0, 1, -1, 7, bottom, top} {
				mutatedIs(t, "no number", intColumn(0, 1, 5, 9), none, mut("n", function, intAtom(by)), nil, impl.OK)
				mutatedIs(t, "no number", wideColumn(8), none, mut("n", function, intAtom(by)), nil, impl.OK)
			}
		}
		for _, c := range []impl.Column{intColumn(0, 2, 0, 9), textColumn(0, 2), boolColumn(0, 2), refColumn(2, "t", true)} {
			one := []impl.Atom{intAtom(3), textAtom("a"), boolAtom(1), idAtom(3)}[c.Kind-1]
			mutatedIs(t, "one into nothing", c, none, mut("x", impl.MuInsert, one), atoms(one), impl.OK)
			mutatedIs(t, "one out of nothing", c, none, mut("x", impl.MuDelete, one), nil, impl.OK)
			mutatedIs(t, "nothing into nothing", c, none, impl.Mut{Func: impl.MuInsert, Value: none}, nil, impl.OK)
			mutatedIs(t, "nothing out of nothing", c, none, impl.Mut{Func: impl.MuDelete, Value: none}, nil, impl.OK)
			mutatedIs(t, "nothing into one", c, atoms(one), impl.Mut{Func: impl.MuInsert, Value: none}, atoms(one), impl.OK)
			mutatedIs(t, "nothing out of one", c, atoms(one), impl.Mut{Func: impl.MuDelete, Value: none}, atoms(one), impl.OK)
			for function := impl.MuAdd; function <= impl.MuMod; function++ {
				mutatedIs(t, "by nothing", c, atoms(one), impl.Mut{Func: function, Value: none}, nil, impl.ErrType)
				mutatedIs(t, "nothing by nothing", c, none, impl.Mut{Func: function, Value: none}, nil, impl.ErrType)
			}
		}
	}
}

// A Value of several numbers is none to add, nor one of another kind; the column's kind counts, not what the cell has.
func TestValuesOfMutations(t *testing.T) {
	for function := impl.MuAdd; function <= impl.MuMod; function++ {
		for _, value := range [][]impl.Atom{ints(1, 3), ints(0, 8), numbersOf(bottom, top), word("1"), atoms(boolAtom(1)), ids(1), ids(1, 2)} {
			mutatedIs(t, "not one number", wideColumn(8), ints(0, 4), mut("n", function, value...), nil, impl.ErrType)
			mutatedIs(t, "not one number, nothing there", wideColumn(1), nil, mut("n", function, value...), nil, impl.ErrType)
		}
		for _, c := range []impl.Column{textColumn(0, 1), boolColumn(0, 1), refColumn(1, "t", false)} {
			for _, value := range rightSets() {
				mutatedIs(t, "a column without numbers", c, nil, mut(c.Name, function, value...), nil, impl.ErrType)
			}
		}
	}
	for function := impl.MuInsert; function <= impl.MuDelete; function++ {
		for _, value := range [][]impl.Atom{word("1"), atoms(boolAtom(1)), ids(1), ids(1, 2, 3)} {
			mutatedIs(t, "another kind", wideColumn(8), ints(0, 4), mut("n", function, value...), nil, impl.ErrType)
			mutatedIs(t, "another kind, nothing there", wideColumn(8), nil, mut("n", function, value...), nil, impl.ErrType)
			mutatedIs(t, "another kind, one number", wideColumn(1), numbersOf(1), mut("n", function, value...), nil, impl.ErrType)
		}
	}
}

func TestInserts(t *testing.T) {
	insert := func(what string, c impl.Column, d, value, want []impl.Atom, code int) {
		t.Helper()
		mutatedIs(t, what, c, d, mut(c.Name, impl.MuInsert, value...), want, code)
	}
	for count := 1; count <= impl.MaxSet; count++ {
		c := intColumn(0, count, -9, 99)
		insert("as many as there may be", c, ints(0, count-1), numbersOf(99), append(ints(0, count-1), intAtom(99)), impl.OK)
		insert("ahead", c, ints(0, count-1), numbersOf(-1), ints(-1, count-1), impl.OK)
		insert("one more", c, ints(0, count), numbersOf(count), nil, impl.ErrMany)
		insert("all that is there", c, ints(0, count), ints(0, count), ints(0, count), impl.OK)
		insert("one that is there", c, ints(0, count), numbersOf(count-1), ints(0, count), impl.OK)
		insert("as many at once", c, nil, ints(0, count), ints(0, count), impl.OK)
		insert("MaxSet others", c, ints(0, count), ints(10, 18), nil, impl.ErrMany)
		insert("MaxSet, some of them there", c, ints(0, count), ints(0, 8), map[bool][]impl.Atom{true: ints(0, 8)}[count == 8], map[bool]int{false: impl.ErrMany}[count == 8])
		insert("too many and out of bounds", c, ints(0, count), numbersOf(100), nil, impl.ErrMany)
		insert("out of bounds", c, ints(0, count-1), numbersOf(100), nil, impl.ErrRange)
		insert("out of bounds below", c, ints(0, count-1), numbersOf(-10), nil, impl.ErrRange)
	}
	words := atoms(textAtom(""), textAtom("a"), textAtom("aa"), textAtom("b"))
	insert("texts between", textColumn(1, 4), atoms(words[0], words[3]), atoms(words[1], words[2]), words, impl.OK)
	insert("a text too many", textColumn(1, 3), atoms(words[0], words[3]), atoms(words[1], words[2]), nil, impl.ErrMany)
	insert("a text ahead of others", textColumn(1, 4), words[1:], words[:1], words, impl.OK)
	insert("texts of 200 bytes", textColumn(0, 2), word(strings.Repeat("b", 200)), word(strings.Repeat("a", 200)), atoms(textAtom(strings.Repeat("a", 200)), textAtom(strings.Repeat("b", 200))), impl.OK)
	both := atoms(boolAtom(0), boolAtom(1))
	insert("the other bool", boolColumn(1, 2), both[1:], both[:1], both, impl.OK)
	insert("the other bool of one", boolColumn(1, 1), both[1:], both[:1], nil, impl.ErrMany)
	insert("the same bool", boolColumn(1, 1), both[1:], both[1:], both[1:], impl.OK)
	insert("rows", refColumn(4, "t", true), ids(2, 1000000), ids(1, 999999), ids(1, 2, 999999, 1000000), impl.OK)
	insert("rows that are too many", refColumn(8, "t", false), ids(1, 2, 3, 4), ids(5, 6, 7, 8, 9), nil, impl.ErrMany)
	insert("nine rows, one of them twice", refColumn(8, "t", false), ids(1, 2, 3, 4), ids(4, 5, 6, 7, 8), ids(1, 2, 3, 4, 5, 6, 7, 8), impl.OK)
}

func TestDeletes(t *testing.T) {
	drop := func(what string, c impl.Column, d, value, want []impl.Atom, code int) {
		t.Helper()
		mutatedIs(t, what, c, d, mut(c.Name, impl.MuDelete, value...), want, code)
	}
	for count := 1; count <= impl.MaxSet; count++ {
		for fewest := range 2 {
			c := intColumn(fewest, count, 0, 9)
			tooFew := map[bool]int{true: impl.ErrMany}[fewest == 1]
			drop("all", c, ints(0, count), ints(0, 8), nil, tooFew)
			drop("just all", c, ints(0, count), ints(0, count), nil, tooFew)
			drop("what is not there", c, ints(0, count), numbersOf(bottom, -1, 9, 10, top), ints(0, count), impl.OK)
			drop("all but one", c, ints(0, count), ints(1, 9), numbersOf(0), impl.OK)
			if count > 1 {
				drop("the first one", c, ints(0, count), numbersOf(0), ints(1, count), impl.OK)
				drop("the last one", c, ints(0, count), numbersOf(count-1), ints(0, count-1), impl.OK)
				drop("what is there and what is not", c, ints(0, count), numbersOf(-1, 0, top), ints(1, count), impl.OK)
			}
		}
	}
	drop("a text", textColumn(1, 2), atoms(textAtom("a"), textAtom("aa")), word("a"), word("aa"), impl.OK)
	drop("the only text", textColumn(1, 2), word("a"), word("a"), nil, impl.ErrMany)
	drop("another text", textColumn(1, 2), word("a"), atoms(textAtom(""), textAtom("A"), textAtom("a "), textAtom("aa")), word("a"), impl.OK)
	drop("the empty text", textColumn(0, 1), word(""), word(""), nil, impl.OK)
	drop("the other bool", boolColumn(1, 1), atoms(boolAtom(1)), atoms(boolAtom(0)), atoms(boolAtom(1)), impl.OK)
	drop("the only bool", boolColumn(1, 2), atoms(boolAtom(1)), atoms(boolAtom(0), boolAtom(1)), nil, impl.ErrMany)
	drop("rows", refColumn(3, "t", true), ids(1, 2, 1000000), ids(2, 3, 1000000), ids(1), impl.OK)
	drop("all rows", refColumn(3, "t", true), ids(1, 2), ids(1, 2), nil, impl.OK)
}

// What comes of a mutation must be within the column's bounds, whatever its Value is.
func TestBoundsOfWhatIsMade(t *testing.T) {
	c := intColumn(1, 3, -5, 7)
	for _, x := range []struct {
		n, function, by, want, code int
	}{
		{6, impl.MuAdd, 1, 7, impl.OK}, {7, impl.MuAdd, 1, 0, impl.ErrRange}, {-4, impl.MuSub, 1, -5, impl.OK}, {-5, impl.MuSub, 1, 0, impl.ErrRange}, {7, impl.MuSub, 12, -5, impl.OK}, {7, impl.MuSub, 13, 0, impl.ErrRange}, {-5, impl.MuAdd, 12, 7, impl.OK}, {-5, impl.MuAdd, 13, 0, impl.ErrRange},
		{-5, impl.MuMul, -1, 5, impl.OK}, {7, impl.MuMul, -1, 0, impl.ErrRange}, {7, impl.MuDiv, -1, 0, impl.ErrRange}, {-5, impl.MuDiv, -1, 5, impl.OK}, {4, impl.MuMul, 2, 0, impl.ErrRange}, {3, impl.MuMul, 2, 6, impl.OK}, {7, impl.MuMul, 1, 7, impl.OK}, {7, impl.MuMod, 1000, 7, impl.OK},
		{0, impl.MuAdd, top, 0, impl.ErrRange}, {0, impl.MuMul, top, 0, impl.OK}, {7, impl.MuDiv, top, 0, impl.OK},
	} {
		mutatedIs(t, "bounds", c, numbersOf(x.n), mut("n", x.function, intAtom(x.by)), map[bool][]impl.Atom{true: numbersOf(x.want)}[x.code == impl.OK], x.code)
	}
	mutatedIs(t, "one of several", c, numbersOf(-5, 0, 7), mut("n", impl.MuAdd, intAtom(1)), nil, impl.ErrRange)
	mutatedIs(t, "one of several", c, numbersOf(-5, 0, 7), mut("n", impl.MuSub, intAtom(1)), nil, impl.ErrRange)
	mutatedIs(t, "none of several", c, numbersOf(-5, 0, 6), mut("n", impl.MuAdd, intAtom(1)), numbersOf(-4, 1, 7), impl.OK)
	above := intColumn(1, 2, 3, 9)
	mutatedIs(t, "nought is below", above, numbersOf(5), mut("n", impl.MuMul, intAtom(0)), nil, impl.ErrRange)
	mutatedIs(t, "a quotient is below", above, numbersOf(5, 9), mut("n", impl.MuDiv, intAtom(2)), nil, impl.ErrRange)
	mutatedIs(t, "a quotient is not", above, numbersOf(6, 9), mut("n", impl.MuDiv, intAtom(2)), numbersOf(3, 4), impl.OK)
	mutatedIs(t, "a rest is below", above, numbersOf(6, 9), mut("n", impl.MuMod, intAtom(6)), nil, impl.ErrRange)
	mutatedIs(t, "one number alone", intColumn(1, 1, 4, 4), numbersOf(4), mut("n", impl.MuMul, intAtom(1)), numbersOf(4), impl.OK)
	mutatedIs(t, "one number alone", intColumn(1, 1, 4, 4), numbersOf(4), mut("n", impl.MuAdd, intAtom(1)), nil, impl.ErrRange)
}

// All right columns and sets, held against the document's words told once more.
func TestMutationsOfAllColumns(t *testing.T) {
	codes := map[int]int{}
	for _, c := range rightColumns() {
		x := table("t", c)
		for function := impl.MuAdd; function <= impl.MuDelete; function++ {
			for _, value := range append(rightSets(), numbersOf(-1), numbersOf(2), numbersOf(top)) {
				m := mut(c.Name, function, value...)
				mutCodeIs(t, brief(c), x, m, mutCodeSays(c, m), impl.OK)
				for _, d := range append(rightSets(), numbersOf(-1, 0, 1), numbersOf(1), numbersOf(bottom)) {
					want, code := []impl.Atom(nil), impl.ErrBad
					if fit, _ := impl.Fits(c, d); fit == impl.OK {
						want, code = mutateSays(c, d, m)
					}
					codes[code]++
					if got, gotCode := impl.Mutate(c, d, m); !slices.Equal(got, want) || gotCode != code {
						t.Errorf("Mutate(%s, %s, %s) is %s, %d, not %s, %d", brief(c), brief(d), brief(m), brief(got), gotCode, brief(want), code)
					}
				}
			}
		}
	}
	if len(codes) != 5 || codes[impl.OK] < 1000 || codes[impl.ErrMany] < 1000 || codes[impl.ErrRange] < 1000 {
		t.Errorf("codes %v", codes)
	}
}

// The Id of a row is no column that could be mutated, unless one is called so.
func TestNamesOfMutatedColumns(t *testing.T) {
	long := strings.Repeat("n", impl.MaxName)
	x := table("t", called(intColumn(0, 1, 0, 9), long), called(intColumn(0, 1, 0, 9), "N"), refColumn(8, "t", false))
	r := row(7, numbersOf(1), numbersOf(2), ids(7))
	for name, want := range map[string][2]int{
		long: {impl.OK, impl.OK}, "N": {impl.OK, impl.OK},
		"_uuid": {impl.ErrColumn, impl.OK}, "": {impl.ErrColumn, impl.OK}, "n": {impl.ErrColumn, impl.OK}, "t": {impl.ErrColumn, impl.OK}, "9": {impl.ErrColumn, impl.OK}, "N ": {impl.ErrColumn, impl.OK}, "\xff": {impl.ErrColumn, impl.OK}, "uuid": {impl.ErrColumn, impl.OK},
		long[1:]: {impl.ErrColumn, impl.OK}, strings.Repeat(" ", 40): {impl.ErrColumn, impl.OK}, strings.Repeat("é", 20): {impl.ErrColumn, impl.OK},
		long + "n": {impl.OK, impl.ErrBad}, long + " ": {impl.OK, impl.ErrBad}, strings.Repeat("\x00", 41): {impl.OK, impl.ErrBad}, strings.Repeat("é", 21): {impl.OK, impl.ErrBad},
		strings.Repeat("n", impl.MaxText): {impl.OK, impl.ErrBad}, strings.Repeat("n", impl.MaxText+1): {impl.OK, impl.ErrBad},
	} {
		m := mut(name, impl.MuAdd, intAtom(3))
		mutCodeIs(t, "a name", x, m, want[0], want[1])
		made := map[string]impl.Row{long: row(7, numbersOf(4), numbersOf(2), ids(7)), "N": row(7, numbersOf(1), numbersOf(5), ids(7))}[name]
		rowIs(t, "a name", x, r, muts(m), made, max(want[0], want[1]))
	}
	for function := impl.MuInsert; function <= impl.MuDelete; function++ {
		mutCodeIs(t, "the Id", x, mut("_uuid", function, idAtom(7)), impl.ErrColumn, impl.OK)
		rowIs(t, "the Id", x, r, muts(mut("_uuid", function, idAtom(7))), impl.Row{}, impl.ErrColumn)
		rowIs(t, "the Id, nothing", x, r, muts(mut("_uuid", function)), impl.Row{}, impl.ErrColumn)
	}
	own := table("t", textColumn(0, 1), called(intColumn(0, 1, 0, 9), "_uuid"))
	mutCodeIs(t, "a column called so", own, mut("_uuid", impl.MuAdd, intAtom(1)), impl.OK, impl.OK)
	mutCodeIs(t, "a column called so", own, mut("_uuid", impl.MuInsert, idAtom(7)), impl.ErrType, impl.OK)
	rowIs(t, "a column called so", own, row(7, nil, numbersOf(1)), muts(mut("_uuid", impl.MuAdd, intAtom(1))), row(7, nil, numbersOf(2)), impl.OK)
	ref := table("t", called(refColumn(2, "t", false), "_uuid"))
	rowIs(t, "a reference called so", ref, row(7, ids(3)), muts(mut("_uuid", impl.MuInsert, idAtom(9))), row(7, ids(3, 9)), impl.OK)
}

// wrongMuts are mutations that are not right, whatever their Column; they would be for askedTable's columns.
func wrongMuts() map[string]impl.Mut {
	wrong := map[string]impl.Mut{
		"nothing":                   {},
		"no column, no function":    mut("x", 0, intAtom(1)),
		"no column, no set":         mut("x", impl.MuAdd, intAtom(2), intAtom(1)),
		"another kind, no function": mut("one", -1, textAtom("a")),
		"a set of two kinds":        mut("one", impl.MuInsert, intAtom(1), textAtom("a")),
		"MaxSet and one more":       mut("many", impl.MuInsert, ints(0, 9)...),
		"MaxSet and one less":       mut("many", impl.MuDelete, ints(0, 9)...),
		"more atoms than a list":    mut("many", impl.MuInsert, ints(0, impl.MaxList+1)...),
		"two that fall":             mut("many", impl.MuDelete, intAtom(2), intAtom(1)),
		"one twice":                 mut("many", impl.MuInsert, intAtom(1), intAtom(1)),
		"a sum of two that fall":    mut("one", impl.MuAdd, intAtom(2), intAtom(1)),
		"a sum of a wrong atom":     mut("one", impl.MuAdd, intAtom(top+1)),
		"a quotient of a wrong one": mut("one", impl.MuDiv, impl.Atom{Kind: impl.AtInt, T: "0"}),
	}
	for _, n := range []int{math.MinInt, -7, -1, 0, 8, 9, 1<<32 + 1, math.MaxInt} {
		wrong[fmt.Sprint("function ", n)] = mut("one", n, intAtom(1))
		wrong[fmt.Sprint("function ", n, " of nothing")] = mut("one", n)
	}
	for name, d := range wrongSets() {
		wrong["+= "+name] = mut("one", impl.MuAdd, d...)
		wrong["insert "+name] = mut("many", impl.MuInsert, d...)
		wrong["delete "+name] = mut("text", impl.MuDelete, d...)
	}
	return wrong
}

func TestWrongMutations(t *testing.T) {
	x, r := askedTable(), askedRow(7, "one", intAtom(1))
	right, beyond, column, kind := mut("one", impl.MuAdd, intAtom(1)), mut("one", impl.MuAdd, intAtom(99)), mut("x", impl.MuAdd, intAtom(1)), mut("one", impl.MuAdd, textAtom("a"))
	wrong := wrongMuts()
	wrong["a long Column"] = mut(strings.Repeat("n", impl.MaxName+1), impl.MuInsert, intAtom(1))
	wrong["a Column beyond MaxText"] = mut(strings.Repeat("n", impl.MaxText+1), impl.MuInsert)
	for what, m := range wrong {
		mutCodeIs(t, what, x, m, impl.OK, impl.ErrBad)
		for _, list := range [][]impl.Mut{
			{m}, {right, m}, {m, right}, {beyond, m}, {m, beyond}, {column, m}, {m, column}, {kind, m}, {m, kind}, {right, right, right, right, right, right, right, m}, {right, right, m, right},
		} {
			rowIs(t, what, x, r, list, impl.Row{}, impl.ErrBad)
		}
	}
	for what, m := range wrongMuts() {
		for _, c := range x.Columns {
			d, _ := impl.DefaultOf(c)
			mutatedIs(t, what, c, d, m, nil, impl.ErrBad)
		}
		mutatedIs(t, what, wideColumn(8), ints(0, 8), m, nil, impl.ErrBad)
		mutatedIs(t, what+", a long set", wideColumn(8), ints(0, impl.MaxList+1), m, nil, impl.ErrLong)
	}
}

// A Column of more than MaxName bytes is ErrBad in each call, ahead of all that the mutation would come to; one of MaxName bytes is what the calls make of it.
func TestMutationsOfLongColumns(t *testing.T) {
	few, bound, ref := called(intColumn(0, 3, -100, 100), "c"), called(intColumn(1, 3, 1, 2), "ta"), called(refColumn(2, "port", false), "anme")
	for _, c := range []struct {
		what   string
		column impl.Column
		d      []impl.Atom
		m      impl.Mut
		want   []impl.Atom
		code   int
	}{
		{"a sum", few, numbersOf(5), mut("", impl.MuAdd, intAtom(2)), numbersOf(7), impl.OK},
		{"a set that nothing is taken of", ref, ids(4), mut("", impl.MuDelete, ids(3, 5)...), ids(4), impl.OK},
		{"rows that join", ref, ids(4), mut("", impl.MuInsert, ids(3)...), ids(3, 4), impl.OK},
		{"a number of nothing", few, nil, mut("", impl.MuMod, intAtom(0)), nil, impl.OK},
		{"below the bounds", bound, numbersOf(2), mut("", impl.MuDiv, intAtom(3)), nil, impl.ErrRange},
		{"by 0", few, numbersOf(5), mut("", impl.MuDiv, intAtom(0)), nil, impl.ErrRange},
		{"no number", few, numbersOf(5), mut("", impl.MuMul, intAtom(top)), nil, impl.ErrRange},
		{"too many", ref, ids(4), mut("", impl.MuInsert, ids(3, 5)...), nil, impl.ErrMany},
		{"too few", bound, numbersOf(2), mut("", impl.MuDelete, intAtom(2)), nil, impl.ErrMany},
		{"another kind", few, numbersOf(5), mut("", impl.MuInsert, textAtom("a")), nil, impl.ErrType},
		{"several numbers", few, numbersOf(5), mut("", impl.MuSub, ints(1, 3)...), nil, impl.ErrType},
		{"a set that does not fit", bound, numbersOf(3), mut("", impl.MuSub, intAtom(1)), nil, impl.ErrBad},
	} {
		mutatedIs(t, c.what, c.column, c.d, c.m, c.want, c.code)
		for _, name := range longColumns() {
			c.m.Column = name
			mutCodeIs(t, c.what, table("t", c.column), c.m, impl.OK, impl.ErrBad)
			rowIs(t, c.what, table("t", c.column), row(7, c.d), muts(c.m), impl.Row{}, impl.ErrBad)
		}
	}
}

func TestMutationsOfWrongColumnsAndSets(t *testing.T) {
	add, kind := mut("n", impl.MuAdd, intAtom(1)), mut("n", impl.MuInsert, impl.Atom{Kind: impl.AtBool})
	list := muts(add, kind, mut("n", impl.MuDiv, intAtom(0)), mut("n", impl.MuInsert, ints(0, 8)...), mut("n", impl.MuDelete), impl.Mut{})
	for _, m := range list {
		for _, c := range []impl.Column{{}, textColumn(0, 9), intColumn(2, 8, 0, 1), intColumn(-1, 1, 0, 1), intColumn(0, 0, 0, 1), intColumn(0, 9, 0, 1), intColumn(0, 1, 2, 1), intColumn(0, 1, 0, top+1), intColumn(0, 1, bottom-1, 0), refColumn(1, "", false), called(intColumn(0, 1, 0, 9), "9"), called(intColumn(0, 1, 0, 9), strings.Repeat("n", impl.MaxName+1)), called(intColumn(0, 1, 0, 9), "")} {
			for _, d := range append(rightSets(), ints(0, impl.MaxList)) {
				mutatedIs(t, "a wrong column", c, d, m, nil, impl.ErrBad)
			}
			mutatedIs(t, "a wrong column, a long set", c, ints(0, impl.MaxList+1), m, nil, impl.ErrLong)
		}
		for name, d := range wrongSets() {
			for _, c := range []impl.Column{intColumn(0, 8, bottom, top), textColumn(0, 8), boolColumn(0, 8), refColumn(8, "t", true)} {
				mutatedIs(t, name, c, d, m, nil, impl.ErrBad)
			}
		}
		x := kindsTable()
		for _, c := range cellCases() {
			if c.fits != impl.OK {
				mutatedIs(t, "a set that does not fit", x.Columns[c.column], c.cell, m, nil, map[bool]int{true: impl.ErrLong, false: impl.ErrBad}[c.fits == impl.ErrLong])
			}
		}
		mutatedIs(t, "a set that the mutation would make fit", intColumn(0, 1, 0, 9), numbersOf(10), mut("n", impl.MuSub, intAtom(5)), nil, impl.ErrBad)
		mutatedIs(t, "a set that the mutation would make fit", intColumn(0, 1, 0, 9), ints(0, 2), mut("n", impl.MuDelete, intAtom(1)), nil, impl.ErrBad)
		mutatedIs(t, "nothing where one must be", intColumn(1, 1, 0, 9), nil, mut("n", impl.MuInsert, intAtom(1)), nil, impl.ErrBad)
	}
	long := make([]impl.Atom, impl.MaxList+1)
	mutatedIs(t, "all wrong, a long set", impl.Column{}, long, impl.Mut{}, nil, impl.ErrLong)
	mutatedIs(t, "all wrong", impl.Column{}, long[1:], impl.Mut{}, nil, impl.ErrBad)
	mutatedIs(t, "all wrong", impl.Column{}, nil, impl.Mut{}, nil, impl.ErrBad)
}

func TestHowManyMutations(t *testing.T) {
	x, r := askedTable(), askedRow(7, "many", ints(0, 2)...)
	for _, none := range [][]impl.Mut{nil, {}} {
		rowIs(t, "no mutation", x, r, none, r, impl.OK)
		rowIs(t, "no mutation, a wrong row", x, impl.Row{}, none, impl.Row{}, impl.ErrBad)
		rowIs(t, "no mutation, a wrong table", impl.Table{}, r, none, impl.Row{}, impl.ErrBad)
	}
	for count, code := range map[int]int{
		1: impl.OK, 7: impl.OK, 8: impl.OK, 9: impl.ErrBad, 10: impl.ErrBad, 16: impl.ErrBad, impl.MaxList: impl.ErrBad, impl.MaxList + 1: impl.ErrLong, impl.MaxList * 3: impl.ErrLong,
	} {
		what := fmt.Sprintf("%d mutations", count)
		all := slices.Repeat(muts(mut("must", impl.MuAdd, intAtom(5))), count)
		want := impl.Row{}
		if code == impl.OK {
			want = copyRow(r)
			want.Cells[1] = numbersOf(5 * count)
		}
		rowIs(t, what, x, r, all, want, code)
		rowIs(t, what+", wrong ones", x, r, make([]impl.Mut, count), impl.Row{}, max(code, impl.ErrBad))
		rowIs(t, what+", a wrong table", impl.Table{}, r, all, impl.Row{}, max(code, impl.ErrBad))
		rowIs(t, what+", a wrong row", x, impl.Row{}, all, impl.Row{}, max(code, impl.ErrBad))
		last := slices.Concat(all[1:], muts(mut("x", impl.MuAdd, intAtom(1))))
		rowIs(t, what+", no column", x, r, last, impl.Row{}, map[bool]int{true: impl.ErrColumn, false: code}[code == impl.OK])
		last = slices.Concat(all[1:], muts(mut("must", impl.MuDiv, intAtom(0))))
		rowIs(t, what+", by 0", x, r, last, impl.Row{}, map[bool]int{true: impl.ErrRange, false: code}[code == impl.OK])
	}
}

// Each mutation takes what the one ahead of it made, and what it makes must fit, whatever comes behind.
func TestMutationsOneBehindTheOther(t *testing.T) {
	x := table("t", intColumn(0, 3, -9, 9), textColumn(1, 2), called(intColumn(1, 1, 0, 99), "m"))
	r := row(7, numbersOf(1, 2), word("a"), numbersOf(50))
	add, twice, less := mut("n", impl.MuAdd, intAtom(3)), mut("n", impl.MuMul, intAtom(2)), mut("n", impl.MuSub, intAtom(9))
	for _, c := range []struct {
		list []impl.Mut
		n    []impl.Atom
		text []impl.Atom
		m    int
	}{
		{muts(add), numbersOf(4, 5), word("a"), 50}, {muts(add, add), numbersOf(7, 8), word("a"), 50}, {muts(twice, add), numbersOf(5, 7), word("a"), 50}, {muts(less, twice, twice, less), nil, nil, -1}, {muts(add, twice), nil, nil, -1},
		{muts(mut("n", impl.MuInsert, intAtom(9)), less, mut("n", impl.MuDelete, intAtom(0))), numbersOf(-8, -7), word("a"), 50},
		{muts(mut("n", impl.MuDelete, intAtom(1)), mut("n", impl.MuInsert, intAtom(1))), numbersOf(1, 2), word("a"), 50},
		{muts(mut("n", impl.MuInsert, intAtom(1)), mut("n", impl.MuDelete, intAtom(1))), numbersOf(2), word("a"), 50},
		{muts(mut("n", impl.MuDelete, ints(1, 3)...), add, mut("n", impl.MuDiv, intAtom(0)), mut("n", impl.MuInsert, intAtom(5)), add), numbersOf(8), word("a"), 50},
		{muts(mut("n", impl.MuDiv, intAtom(5)), mut("n", impl.MuInsert, ints(1, 3)...)), ints(0, 3), word("a"), 50},
		{muts(mut("t", impl.MuInsert, textAtom("b")), mut("t", impl.MuDelete, textAtom("a"))), numbersOf(1, 2), word("b"), 50},
		{muts(mut("t", impl.MuInsert, textAtom("b")), mut("m", impl.MuAdd, intAtom(49)), add, mut("m", impl.MuMod, intAtom(10)), mut("t", impl.MuDelete, textAtom("b")), mut("m", impl.MuMul, intAtom(11))), numbersOf(4, 5), word("a"), 99},
	} {
		if c.m < 0 {
			rowIs(t, "one is beyond", x, r, c.list, impl.Row{}, impl.ErrRange)
			continue
		}
		rowIs(t, "several", x, r, c.list, row(7, c.n, c.text, numbersOf(c.m)), impl.OK)
	}
	for _, c := range []struct {
		list []impl.Mut
		code int
	}{
		{muts(mut("t", impl.MuDelete, textAtom("a")), mut("t", impl.MuInsert, textAtom("b"))), impl.ErrMany},
		{muts(mut("n", impl.MuInsert, ints(3, 5)...), mut("n", impl.MuDelete, intAtom(4))), impl.ErrMany},
		{muts(mut("m", impl.MuAdd, intAtom(50)), mut("m", impl.MuSub, intAtom(50))), impl.ErrRange},
		{muts(mut("m", impl.MuSub, intAtom(50)), mut("m", impl.MuSub, intAtom(1)), mut("m", impl.MuAdd, intAtom(1))), impl.ErrRange},
		{muts(mut("m", impl.MuDiv, intAtom(0)), mut("n", impl.MuInsert, ints(3, 5)...)), impl.ErrRange}, {muts(mut("n", impl.MuInsert, ints(3, 5)...), mut("m", impl.MuDiv, intAtom(0))), impl.ErrMany},
		{muts(add, mut("m", impl.MuMul, intAtom(2)), mut("t", impl.MuDelete, textAtom("a"))), impl.ErrRange}, {muts(add, mut("t", impl.MuDelete, textAtom("a")), mut("m", impl.MuMul, intAtom(2))), impl.ErrMany},
	} {
		rowIs(t, "one does not fit", x, r, c.list, impl.Row{}, c.code)
	}
}

// MutCode is asked of all mutations ahead of doing the first one; of several the first one's code counts.
func TestTheFirstCodeOfMutations(t *testing.T) {
	x, r := askedTable(), askedRow(7, "one", intAtom(1))
	right, beyond, zero, full := mut("one", impl.MuAdd, intAtom(1)), mut("one", impl.MuAdd, intAtom(99)), mut("one", impl.MuMod, intAtom(0)), mut("must", impl.MuInsert, intAtom(1))
	column, kind, order := mut("x", impl.MuInsert), mut("one", impl.MuInsert, textAtom("a")), mut("many", impl.MuSub, ints(1, 3)...)
	both := mut("x", impl.MuAdd, textAtom("a"))
	mutCodeIs(t, "no column, another kind", x, both, impl.ErrColumn, impl.OK)
	mutCodeIs(t, "no column, several numbers", x, mut("x", impl.MuAdd, ints(1, 3)...), impl.ErrColumn, impl.OK)
	for _, c := range []struct {
		list []impl.Mut
		code int
	}{
		{muts(column), impl.ErrColumn}, {muts(kind), impl.ErrType}, {muts(order), impl.ErrType}, {muts(both), impl.ErrColumn}, {muts(beyond), impl.ErrRange}, {muts(zero), impl.ErrRange}, {muts(full), impl.ErrMany},
		{muts(right, column), impl.ErrColumn}, {muts(column, right), impl.ErrColumn}, {muts(column, kind), impl.ErrColumn}, {muts(kind, column), impl.ErrType}, {muts(order, column), impl.ErrType}, {muts(right, order, both), impl.ErrType},
		{muts(beyond, column), impl.ErrColumn}, {muts(zero, kind), impl.ErrType}, {muts(full, order), impl.ErrType}, {muts(beyond, full, kind, column), impl.ErrType}, {muts(full, beyond, column, kind), impl.ErrColumn}, {muts(column, beyond), impl.ErrColumn},
		{muts(beyond, full), impl.ErrRange}, {muts(full, beyond), impl.ErrMany}, {muts(right, zero, full), impl.ErrRange}, {muts(right, full, zero), impl.ErrMany},
		{muts(beyond, beyond, beyond, beyond, beyond, beyond, beyond, column), impl.ErrColumn}, {muts(right, right, right, right, right, right, right, full), impl.ErrMany},
	} {
		rowIs(t, "the first code", x, r, c.list, impl.Row{}, c.code)
		rowIs(t, "a wrong row", x, impl.Row{}, c.list, impl.Row{}, impl.ErrBad)
		rowIs(t, "a wrong table", impl.Table{}, r, c.list, impl.Row{}, impl.ErrBad)
	}
}

func TestMutationsOfTables(t *testing.T) {
	for name, x := range rightTables() {
		r := row(1)
		for _, c := range x.Columns {
			d, _ := impl.DefaultOf(c)
			r.Cells = append(r.Cells, d)
		}
		for _, c := range x.Columns {
			mutCodeIs(t, name, x, mut(c.Name, impl.MuDelete), impl.OK, impl.OK)
			rowIs(t, name, x, r, muts(mut(c.Name, impl.MuInsert)), r, impl.OK)
		}
		mutCodeIs(t, name, x, mut("none", impl.MuDelete), impl.ErrColumn, impl.OK)
		rowIs(t, name, x, r, nil, r, impl.OK)
	}
	for name, x := range wrongTables() {
		r := row(1, make([][]impl.Atom, len(x.Columns))...)
		for _, m := range muts(mut("c0", impl.MuInsert, textAtom("a")), mut("t", impl.MuDelete), mut("x", impl.MuDelete), mut("c0", impl.MuAdd, intAtom(1)), impl.Mut{}) {
			mutCodeIs(t, name, x, m, impl.OK, impl.ErrBad)
			rowIs(t, name, x, r, muts(m), impl.Row{}, impl.ErrBad)
		}
		rowIs(t, name, x, r, nil, impl.Row{}, impl.ErrBad)
		rowIs(t, name, x, row(1), nil, impl.Row{}, impl.ErrBad)
	}
	elsewhere := table("t", refColumn(2, "u", true))
	rowIs(t, "a table that refers elsewhere", elsewhere, row(1, ids(9)), muts(mut("r", impl.MuInsert, idAtom(8))), row(1, ids(8, 9)), impl.OK)
}

// A row that does not fit is ErrBad, also where a mutation would have a code, or would make it fit.
func TestMutationsOfWrongRows(t *testing.T) {
	x := kindsTable()
	lists := [][]impl.Mut{nil, muts(mut("b", impl.MuDelete)), muts(mut("x", impl.MuDelete)), muts(mut("b", impl.MuAdd, intAtom(1))), muts(mut("b", impl.MuDelete, boolAtom(0), boolAtom(1)))}
	codes := []int{impl.OK, impl.OK, impl.ErrColumn, impl.ErrType, impl.ErrMany}
	for _, c := range cellCases() {
		r := kindsRow(7)
		r.Cells[c.column] = c.cell
		for i, list := range lists {
			want, code := impl.Row{}, codes[i]
			if c.fits != impl.OK {
				code = impl.ErrBad
			} else if code == impl.OK {
				want = r
			}
			rowIs(t, fmt.Sprintf("%s in column %d", brief(c.cell), c.column), x, r, list, want, code)
		}
	}
	made := kindsRow(7)
	made.Cells[0] = numbersOf(6)
	rowIs(t, "what would be made to fit", x, made, muts(mut("n", impl.MuSub, intAtom(1))), impl.Row{}, impl.ErrBad)
	for _, id := range []int{math.MinInt, -1, 0, 1, 999999, 1000000, 1000001, math.MaxInt} {
		want, code := kindsRow(id), impl.OK
		want.Cells[0] = numbersOf(3)
		if id < 1 || id > 1000000 {
			want, code = impl.Row{}, impl.ErrBad
		}
		rowIs(t, fmt.Sprintf("Id %d", id), x, kindsRow(id), muts(mut("n", impl.MuAdd, intAtom(2))), want, code)
	}
	full := kindsRow(7)
	for count := range full.Cells {
		rowIs(t, "fewer cells", x, row(7, full.Cells[:count]...), nil, impl.Row{}, impl.ErrBad)
	}
	rowIs(t, "a cell more", x, row(7, append(full.Cells, nil)...), nil, impl.Row{}, impl.ErrBad)
}
