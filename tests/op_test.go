package tests

import (
	"fmt"
	"math"
	"slices"
	"strings"
	"testing"

	"loop.example/g00524/impl"
)

func set(column string, value ...impl.Atom) impl.Set {
	return impl.Set{Column: column, Value: value}
}

// naming answers a set of rows by their names.
func naming(column string, names ...string) impl.Set {
	return impl.Set{Column: column, Names: names}
}

func sets(list ...impl.Set) []impl.Set { return list }

// partsOf answers which parts the document gives to each kind, a letter a part, and none to any other kind.
func partsOf(kind int) (parts string, right bool) {
	all := []string{1: "TRN", 2: "TWC", 3: "TWR", 4: "TWM", 5: "TW", 6: "TWRU", 7: "", 8: "", 9: "N", 10: "N"}
	if kind < 1 || kind > 10 {
		return "", false
	}
	return all[kind], true
}

// kindsWith answers the kinds that have a use for a part.
func kindsWith(part string) []int {
	var kinds []int
	for kind := 1; kind <= 10; kind++ {
		if parts, _ := partsOf(kind); strings.Contains(parts, part) {
			kinds = append(kinds, kind)
		}
	}
	return kinds
}

// withPart answers an operation with one part more, which is right.
func withPart(o impl.Op, part rune) impl.Op {
	switch part {
	case 'T':
		o.Table = "t"
	case 'N':
		o.Name = "n"
	case 'W':
		o.Where = conds(cond("a", impl.CoEq))
	case 'R':
		o.Row = sets(set("a"))
	case 'M':
		o.Muts = muts(mut("a", impl.MuDelete))
	case 'C':
		o.Columns = []string{"a"}
	case 'U':
		o.Until = true
	}
	return o
}

// opIs tells whether an operation is right, as OpOK and OpCode of several schemas tell it.
func opIs(t *testing.T, what string, o impl.Op, right bool) {
	t.Helper()
	if got := impl.OpOK(o); got != right {
		t.Errorf("%s: OpOK(%s) is %v", what, brief(o), got)
	}
	for _, s := range []impl.Schema{impl.PlainSchema(), schema(askedTable()), schema(table("t", columns(6)...))} {
		first, code := impl.OpCode(s, o)
		if right && code != impl.OK || !right && (first != impl.OK || code != impl.ErrBad) {
			t.Errorf("%s: OpCode(%s) is %d, %d", what, brief(o), first, code)
		}
	}
	for _, s := range []impl.Schema{{}, schema(table("t")), schema(table("b", columns(1)...), table("a", columns(1)...))} {
		if first, code := impl.OpCode(s, o); first != impl.OK || code != impl.ErrBad {
			t.Errorf("%s, a wrong schema: OpCode(%s) is %d, %d", what, brief(o), first, code)
		}
	}
}

// opCodeIs tells what OpCode answers of a right operation.
func opCodeIs(t *testing.T, what string, s impl.Schema, o impl.Op, want int) {
	t.Helper()
	if !impl.OpOK(o) {
		t.Errorf("%s: OpOK(%s) is false", what, brief(o))
	}
	if first, code := impl.OpCode(s, o); first != want || code != impl.OK {
		t.Errorf("%s: OpCode(%s) is %d, %d, not %d, %d", what, brief(o), first, code, want, impl.OK)
	}
}

func TestKindsOfOperations(t *testing.T) {
	kinds := []int{impl.OpInsert, impl.OpSelect, impl.OpUpdate, impl.OpMutate, impl.OpDelete, impl.OpWait, impl.OpCommit, impl.OpAbort, impl.OpComment, impl.OpAssert}
	for i, kind := range kinds {
		if kind != i+1 {
			t.Errorf("kind %d is %d", i+1, kind)
		}
		opIs(t, "nothing but a kind", impl.Op{Kind: kind}, true)
		want := impl.OK
		if kind <= impl.OpWait {
			want = impl.ErrTable
		} else if kind == impl.OpAssert {
			want = impl.ErrForm
		}
		opCodeIs(t, "nothing but a kind", impl.PlainSchema(), impl.Op{Kind: kind}, want)
	}
	for _, kind := range []int{math.MinInt, -11, -10, -1, 0, 11, 12, 1 << 32, 1<<32 + 1, math.MaxInt} {
		opIs(t, "another kind", impl.Op{Kind: kind}, false)
		opIs(t, "another kind with a Table", impl.Op{Kind: kind, Table: "port"}, false)
		opIs(t, "another kind with a Name", impl.Op{Kind: kind, Name: "n"}, false)
	}
}

// All ways to have parts and not to have them, of all kinds.
func TestPartsOfOperations(t *testing.T) {
	const letters = "TNWRMCU"
	right := 0
	for kind := -1; kind <= 12; kind++ {
		uses, known := partsOf(kind)
		for bits := range 1 << len(letters) {
			o, useful := impl.Op{Kind: kind}, known
			for i, part := range letters {
				if bits>>i&1 == 1 {
					o = withPart(o, part)
					useful = useful && strings.ContainsRune(uses, part)
				}
			}
			if useful {
				right++
			}
			opIs(t, "some parts", o, useful)
		}
	}
	if right != 8+8+8+8+4+16+1+1+2+2 {
		t.Errorf("%d operations are right", right)
	}
}

// A part that a kind has no use for is not zero however little it has: an empty list alone is as none.
func TestPartsOfLittle(t *testing.T) {
	for kind := 1; kind <= 10; kind++ {
		uses, _ := partsOf(kind)
		opIs(t, "empty lists", impl.Op{Kind: kind, Where: conds(), Row: sets(), Muts: muts(), Columns: []string{}}, true)
		opIs(t, "empty lists with room", impl.Op{Kind: kind, Where: make([]impl.Cond, 0, 3), Row: make([]impl.Set, 0, 3), Muts: make([]impl.Mut, 0, 3), Columns: make([]string, 0, 3)}, true)
		opIs(t, "a Table of a byte 0", impl.Op{Kind: kind, Table: "\x00"}, strings.Contains(uses, "T"))
		opIs(t, "a Name of a byte 0", impl.Op{Kind: kind, Name: "\x00"}, strings.Contains(uses, "N"))
		opIs(t, "a set of nothing", impl.Op{Kind: kind, Row: make([]impl.Set, 1)}, strings.Contains(uses, "R"))
		opIs(t, "an empty column", impl.Op{Kind: kind, Columns: make([]string, 1)}, strings.Contains(uses, "C"))
		opIs(t, "a condition of nothing", impl.Op{Kind: kind, Where: make([]impl.Cond, 1)}, false)
		opIs(t, "a mutation of nothing", impl.Op{Kind: kind, Muts: make([]impl.Mut, 1)}, false)
		opIs(t, "a condition without a column", impl.Op{Kind: kind, Where: conds(cond("", impl.CoEq))}, strings.Contains(uses, "W"))
		opIs(t, "a mutation without a column", impl.Op{Kind: kind, Muts: muts(mut("", impl.MuInsert))}, strings.Contains(uses, "M"))
	}
}

// opsWithText answers operations that have a text in just one place.
func opsWithText(text string) []impl.Op {
	var all []impl.Op
	for _, kind := range kindsWith("T") {
		all = append(all, impl.Op{Kind: kind, Table: text})
	}
	for _, kind := range kindsWith("N") {
		all = append(all, impl.Op{Kind: kind, Name: text})
	}
	for _, kind := range kindsWith("W") {
		all = append(all, impl.Op{Kind: kind, Where: conds(cond(text, impl.CoEq))}, impl.Op{Kind: kind, Where: append(slices.Repeat(conds(cond("a", impl.CoEq)), 7), cond(text, impl.CoNe, idAtom(1)))})
	}
	for _, kind := range kindsWith("R") {
		all = append(all, impl.Op{Kind: kind, Row: sets(set(text))}, impl.Op{Kind: kind, Row: sets(naming(text, "p"))}, impl.Op{Kind: kind, Row: append(slices.Repeat(sets(set("a")), 5), set(text, intAtom(1)))})
	}
	for _, kind := range kindsWith("M") {
		all = append(all, impl.Op{Kind: kind, Muts: muts(mut(text, impl.MuInsert))}, impl.Op{Kind: kind, Muts: append(slices.Repeat(muts(mut("a", impl.MuDelete)), 7), mut(text, impl.MuAdd, intAtom(1)))})
	}
	for _, kind := range kindsWith("C") {
		all = append(all, impl.Op{Kind: kind, Columns: []string{text}}, impl.Op{Kind: kind, Columns: []string{"a", "a", "a", "a", "a", text}})
	}
	return all
}

func TestHowLongTextsOfOperationsAre(t *testing.T) {
	for _, one := range []string{"n", "9", " ", "\x00", "\xff", "ab", "é"} {
		for _, size := range []int{0, 2, impl.MaxName - 2, impl.MaxName, impl.MaxName + 2, 68, impl.MaxText, impl.MaxText + 2} {
			text := strings.Repeat(one, size/len(one))
			for _, o := range opsWithText(text) {
				opIs(t, fmt.Sprintf("a text of %d bytes", len(text)), o, len(text) <= impl.MaxName)
			}
		}
	}
	for _, o := range append(opsWithText(endlessName[:impl.MaxName]), opsWithText(strings.Repeat("é", 20))...) {
		opIs(t, "MaxName bytes", o, true)
	}
	for _, o := range append(opsWithText(endlessName[:impl.MaxName+1]), opsWithText(strings.Repeat("é", 20)+"n")...) {
		opIs(t, "MaxName bytes and one more", o, false)
	}
}

func TestHowManyPartsOperationsHave(t *testing.T) {
	for _, count := range []int{0, 1, 5, 6, 7, 8, 9, 10, 16, impl.MaxList, impl.MaxList + 1} {
		what := fmt.Sprintf("%d of a part", count)
		for _, kind := range kindsWith("W") {
			opIs(t, what, impl.Op{Kind: kind, Where: slices.Repeat(conds(cond("name", impl.CoEq)), count)}, count <= 8)
		}
		for _, kind := range kindsWith("M") {
			opIs(t, what, impl.Op{Kind: kind, Muts: slices.Repeat(muts(mut("name", impl.MuDelete)), count)}, count <= 8)
		}
		for _, kind := range kindsWith("C") {
			opIs(t, what, impl.Op{Kind: kind, Columns: slices.Repeat([]string{"name"}, count)}, count <= impl.MaxColumns)
		}
		for _, kind := range kindsWith("R") {
			opIs(t, what, impl.Op{Kind: kind, Row: slices.Repeat(sets(set("name")), count)}, count <= impl.MaxColumns)
			opIs(t, what, impl.Op{Kind: kind, Row: sets(naming("a", slices.Repeat([]string{"p"}, count)...))}, count <= 8)
			opIs(t, what, impl.Op{Kind: kind, Row: sets(set("b"), naming("a", slices.Repeat([]string{"p"}, count)...))}, count <= 8)
		}
	}
	full := impl.Op{Kind: impl.OpWait, Table: "port", Where: slices.Repeat(conds(cond("name", impl.CoEq)), 8), Row: slices.Repeat(sets(set("name")), 6), Until: true}
	opIs(t, "all there may be", full, true)
	full = impl.Op{Kind: impl.OpMutate, Table: "port", Where: slices.Repeat(conds(cond("name", impl.CoEq)), 8), Muts: slices.Repeat(muts(mut("name", impl.MuDelete)), 8)}
	opIs(t, "all there may be", full, true)
}

// rowsAre tells of a set whether operations with it are right, wherever it stands in their Row.
func rowsAre(t *testing.T, what string, x impl.Set, right bool) {
	t.Helper()
	other := set("b", intAtom(1))
	for _, kind := range kindsWith("R") {
		for _, list := range [][]impl.Set{{x}, {x, other}, {other, x}, {x, x}, {other, other, other, other, other, x}, {other, naming("c", "p"), x, other}} {
			opIs(t, what, impl.Op{Kind: kind, Table: "t", Row: list}, right)
		}
	}
}

func TestValuesOfSets(t *testing.T) {
	for _, d := range rightSets() {
		rowsAre(t, "a right Value", impl.Set{Column: "a", Value: d}, true)
		rowsAre(t, "a right Value, empty Names", impl.Set{Column: "a", Value: d, Names: []string{}}, true)
		for _, names := range [][]string{{"p"}, {"p", "q"}, {"p", "p"}, {"_"}, {"9"}, {""}, slices.Repeat([]string{"p"}, 8)} {
			right := len(d) == 0 && impl.NameOK(names[0])
			rowsAre(t, "Names beside a Value", impl.Set{Column: "a", Value: d, Names: names}, right)
		}
	}
	for what, d := range wrongSets() {
		rowsAre(t, what, impl.Set{Column: "a", Value: d}, false)
		rowsAre(t, what+" beside Names", impl.Set{Column: "a", Value: d, Names: []string{"p"}}, false)
	}
	rowsAre(t, "nothing at all", impl.Set{}, true)
}

func TestNamesOfSets(t *testing.T) {
	for name, right := range edgeNames() {
		rowsAre(t, "a name", naming("a", name), right)
		rowsAre(t, "a name twice", naming("a", name, name), right)
		rowsAre(t, "a name behind another one", naming("a", "p", name), right)
		rowsAre(t, "a name ahead of another one", naming("a", name, "p"), right)
		rowsAre(t, "the last of eight", naming("a", "a", "b", "c", "d", "e", "f", "g", name), right)
		rowsAre(t, "the last of nine", naming("a", "a", "b", "c", "d", "e", "f", "g", "h", name), false)
	}
	for _, names := range [][]string{nil, {}, {"p", "q"}, {"q", "p"}, {"p", "q", "p"}, slices.Repeat([]string{"p"}, 8), {"a", "b", "c", "d", "e", "f", "g", "h"}} {
		rowsAre(t, "some names", naming("a", names...), true)
		rowsAre(t, "some names without a column", naming("", names...), true)
	}
}

func TestWrongConditionsOfOperations(t *testing.T) {
	right := cond("name", impl.CoEq, textAtom("p"))
	for what, wrong := range wrongConds() {
		for _, kind := range kindsWith("W") {
			for _, list := range [][]impl.Cond{{wrong}, {right, wrong}, {wrong, right}, append(slices.Repeat(conds(right), 7), wrong)} {
				opIs(t, what, impl.Op{Kind: kind, Table: "port", Where: list}, false)
			}
		}
	}
	for function := impl.CoEq; function <= impl.CoExcludes; function++ {
		for _, d := range rightSets() {
			for _, kind := range kindsWith("W") {
				opIs(t, "a right condition", impl.Op{Kind: kind, Where: conds(right, cond("", function, d...))}, true)
			}
		}
	}
}

func TestWrongMutationsOfOperations(t *testing.T) {
	right := mut("name", impl.MuDelete)
	for what, wrong := range wrongMuts() {
		for _, list := range [][]impl.Mut{{wrong}, {right, wrong}, {wrong, right}, append(slices.Repeat(muts(right), 7), wrong)} {
			opIs(t, what, impl.Op{Kind: impl.OpMutate, Table: "port", Muts: list}, false)
		}
	}
	for function := impl.MuAdd; function <= impl.MuDelete; function++ {
		for _, d := range rightSets() {
			opIs(t, "a right mutation", impl.Op{Kind: impl.OpMutate, Muts: muts(right, mut("", function, d...))}, true)
		}
	}
}

func TestTablesOfOperations(t *testing.T) {
	four := schema(someTables("a", "note", "port", strings.Repeat("s", impl.MaxName))...)
	for name, there := range map[string][2]bool{
		"note": {true, true}, "port": {true, true}, "switch": {true, false}, "a": {false, true}, strings.Repeat("s", impl.MaxName): {false, true},
		"": {}, "Note": {}, "notes": {}, "not": {}, "note ": {}, " note": {}, "_uuid": {}, "name": {}, "9": {}, "\xff": {}, strings.Repeat("s", impl.MaxName-1): {},
	} {
		for i, s := range []impl.Schema{impl.PlainSchema(), four} {
			want := map[bool]int{true: impl.OK, false: impl.ErrTable}[there[i]]
			for _, kind := range kindsWith("T") {
				opCodeIs(t, "a Table", s, impl.Op{Kind: kind, Table: name}, want)
			}
		}
	}
}

// A row may be called nothing, what is asserted must be called something, and a comment says anything.
func TestNamesOfOperations(t *testing.T) {
	for name, right := range edgeNames() {
		if len(name) > impl.MaxName {
			continue
		}
		form := map[bool]int{true: impl.OK, false: impl.ErrForm}
		opCodeIs(t, "how a row is called", impl.PlainSchema(), impl.Op{Kind: impl.OpInsert, Table: "note", Name: name}, form[right || name == ""])
		opCodeIs(t, "what is asserted", impl.PlainSchema(), impl.Op{Kind: impl.OpAssert, Name: name}, form[right])
		opCodeIs(t, "what is said", impl.PlainSchema(), impl.Op{Kind: impl.OpComment, Name: name}, impl.OK)
	}
	for _, name := range []string{"note", "port", "name", "_uuid", "insert"} {
		opCodeIs(t, "called as something else is", impl.PlainSchema(), impl.Op{Kind: impl.OpInsert, Table: "note", Name: name}, impl.OK)
	}
}

func TestColumnsOfOperations(t *testing.T) {
	s := schema(table("t", called(textColumn(0, 1), "a"), called(intColumn(0, 1, 0, 9), strings.Repeat("n", impl.MaxName))))
	for name, want := range map[string]int{
		"a": impl.OK, strings.Repeat("n", impl.MaxName): impl.OK, "_uuid": impl.OK,
		"": impl.ErrColumn, "t": impl.ErrColumn, "A": impl.ErrColumn, "a ": impl.ErrColumn, "9": impl.ErrColumn, "\xff": impl.ErrColumn, "uuid": impl.ErrColumn, "_Uuid": impl.ErrColumn, "_uuid ": impl.ErrColumn, strings.Repeat("n", impl.MaxName-1): impl.ErrColumn,
	} {
		for _, list := range [][]string{{name}, {name, name}, {"a", name}, {name, "a"}, {"a", "_uuid", "a", "_uuid", "a", name}} {
			opCodeIs(t, "a column", s, impl.Op{Kind: impl.OpSelect, Table: "t", Columns: list}, want)
		}
	}
	for _, x := range impl.PlainSchema().Tables {
		all := []string{"_uuid"}
		for _, c := range x.Columns {
			all = append(all, c.Name)
		}
		opCodeIs(t, "all columns", impl.PlainSchema(), impl.Op{Kind: impl.OpSelect, Table: x.Name, Columns: all}, impl.OK)
		opCodeIs(t, "no column", impl.PlainSchema(), impl.Op{Kind: impl.OpSelect, Table: x.Name}, impl.OK)
		opCodeIs(t, "another table's column", impl.PlainSchema(), impl.Op{Kind: impl.OpSelect, Table: x.Name, Columns: append(all, "other")}, impl.ErrColumn)
	}
	for i, name := range []string{"about", "tag", "count"} {
		for k, x := range impl.PlainSchema().Tables {
			opCodeIs(t, "a table's own column", impl.PlainSchema(), impl.Op{Kind: impl.OpSelect, Table: x.Name, Columns: []string{name}}, map[bool]int{true: impl.OK, false: impl.ErrColumn}[i == k])
		}
	}
}

// The Id is asked for and picked, never set or mutated; a column that is called so takes its place everywhere.
func TestOperationsOnTheId(t *testing.T) {
	without := schema(table("t", called(textColumn(0, 1), "a")))
	asNumber := schema(table("t", called(textColumn(0, 1), "a"), called(intColumn(0, 1, 0, 9), "_uuid")))
	asRows := schema(table("t", called(refColumn(8, "t", false), "_uuid")))
	one, row7, some := atoms(intAtom(1)), ids(7), word("a")
	for _, c := range []struct {
		what                      string
		o                         impl.Op
		without, asNumber, asRows int
	}{
		{"picked", impl.Op{Kind: impl.OpSelect, Columns: []string{"_uuid"}}, impl.OK, impl.OK, impl.OK},
		{"asked for as a row", impl.Op{Kind: impl.OpDelete, Where: conds(cond("_uuid", impl.CoEq, row7...))}, impl.OK, impl.ErrType, impl.OK},
		{"asked for as a number", impl.Op{Kind: impl.OpSelect, Where: conds(cond("_uuid", impl.CoLt, one...))}, impl.ErrType, impl.OK, impl.ErrType},
		{"set to nothing", impl.Op{Kind: impl.OpInsert, Row: sets(set("_uuid"))}, impl.ErrColumn, impl.OK, impl.OK},
		{"set to a number", impl.Op{Kind: impl.OpUpdate, Row: sets(set("_uuid", one...))}, impl.ErrColumn, impl.OK, impl.ErrType},
		{"set to a row", impl.Op{Kind: impl.OpUpdate, Row: sets(set("_uuid", row7...))}, impl.ErrColumn, impl.ErrType, impl.OK},
		{"set to a named row", impl.Op{Kind: impl.OpInsert, Row: sets(naming("_uuid", "p"))}, impl.ErrColumn, impl.ErrType, impl.OK},
		{"waited for as a row", impl.Op{Kind: impl.OpWait, Row: sets(set("_uuid", row7...))}, impl.ErrColumn, impl.ErrType, impl.OK},
		{"mutated as a number", impl.Op{Kind: impl.OpMutate, Muts: muts(mut("_uuid", impl.MuAdd, one...))}, impl.ErrColumn, impl.OK, impl.ErrType},
		{"mutated as a row", impl.Op{Kind: impl.OpMutate, Muts: muts(mut("_uuid", impl.MuInsert, row7...))}, impl.ErrColumn, impl.ErrType, impl.OK},
		{"set to a text", impl.Op{Kind: impl.OpInsert, Row: sets(set("_uuid", some...))}, impl.ErrColumn, impl.ErrType, impl.ErrType},
	} {
		c.o.Table = "t"
		opCodeIs(t, c.what, without, c.o, c.without)
		opCodeIs(t, c.what+", a column of numbers", asNumber, c.o, c.asNumber)
		opCodeIs(t, c.what+", a column of rows", asRows, c.o, c.asRows)
	}
}

func TestConditionsOfOperations(t *testing.T) {
	s := schema(askedTable())
	yes, column, kind, order := cond("one", impl.CoEq, intAtom(1)), cond("x", impl.CoEq), cond("one", impl.CoEq, textAtom("a")), cond("many", impl.CoLt, intAtom(1))
	for _, c := range []struct {
		list []impl.Cond
		code int
	}{
		{nil, impl.OK}, {conds(yes), impl.OK}, {conds(yes, yes, yes, yes, yes, yes, yes, yes), impl.OK}, {conds(column), impl.ErrColumn}, {conds(kind), impl.ErrType}, {conds(order), impl.ErrType}, {conds(yes, column), impl.ErrColumn},
		{conds(column, kind), impl.ErrColumn}, {conds(kind, column), impl.ErrType}, {conds(order, column), impl.ErrType}, {conds(yes, yes, yes, yes, yes, yes, yes, order), impl.ErrType}, {conds(yes, column, order), impl.ErrColumn},
		{conds(cond("x", impl.CoLt, textAtom("a"))), impl.ErrColumn}, {conds(cond("one", impl.CoIncludes, ints(0, 8)...)), impl.OK}, {conds(cond("one", impl.CoEq, intAtom(top))), impl.OK},
	} {
		for _, kind := range kindsWith("W") {
			opCodeIs(t, "some conditions", s, impl.Op{Kind: kind, Table: "t", Where: c.list}, c.code)
		}
	}
}

func TestMutationsOfOperations(t *testing.T) {
	s := schema(askedTable())
	yes, column, kind, order := mut("one", impl.MuAdd, intAtom(1)), mut("x", impl.MuInsert), mut("one", impl.MuInsert, textAtom("a")), mut("many", impl.MuSub, ints(1, 3)...)
	for _, c := range []struct {
		list []impl.Mut
		code int
	}{
		{nil, impl.OK}, {muts(yes), impl.OK}, {muts(yes, yes, yes, yes, yes, yes, yes, yes), impl.OK}, {muts(column), impl.ErrColumn}, {muts(kind), impl.ErrType}, {muts(order), impl.ErrType}, {muts(yes, column), impl.ErrColumn},
		{muts(column, kind), impl.ErrColumn}, {muts(kind, column), impl.ErrType}, {muts(order, column), impl.ErrType}, {muts(yes, yes, yes, yes, yes, yes, yes, order), impl.ErrType}, {muts(yes, column, order), impl.ErrColumn},
		{muts(mut("must", impl.MuDiv, intAtom(0))), impl.OK}, {muts(mut("one", impl.MuInsert, ints(0, 8)...)), impl.OK}, {muts(mut("one", impl.MuAdd, intAtom(top))), impl.OK},
	} {
		opCodeIs(t, "some mutations", s, impl.Op{Kind: impl.OpMutate, Table: "t", Muts: c.list}, c.code)
	}
}

// rowCases are lists of right sets for askedTable, and the code that each has as a Row.
func rowCases() []struct {
	list []impl.Set
	code int
} {
	one, text, column, kind := set("one", intAtom(1)), set("text", textAtom("a")), set("x", intAtom(1)), set("one", textAtom("a"))
	none, names, wrongNames := set("one"), naming("ref", "p"), naming("one", "p")
	return []struct {
		list []impl.Set
		code int
	}{
		{nil, impl.OK}, {sets(one), impl.OK}, {sets(one, text), impl.OK}, {sets(text, one), impl.OK}, {sets(none), impl.OK}, {sets(names), impl.OK}, {sets(one, names, text), impl.OK},
		{sets(column), impl.ErrColumn}, {sets(set("")), impl.ErrColumn}, {sets(naming("x", "p")), impl.ErrColumn}, {sets(set("x")), impl.ErrColumn}, {sets(kind), impl.ErrType}, {sets(wrongNames), impl.ErrType},
		{sets(one, one), impl.ErrTwice}, {sets(one, none), impl.ErrTwice}, {sets(none, one), impl.ErrTwice}, {sets(none, none), impl.ErrTwice}, {sets(one, text, one), impl.ErrTwice}, {sets(names, names), impl.ErrTwice}, {sets(names, set("ref", idAtom(1))), impl.ErrTwice}, {sets(names, naming("ref", "q")), impl.ErrTwice},
		{sets(one, kind), impl.ErrTwice}, {sets(kind, one), impl.ErrType}, {sets(kind, kind), impl.ErrType}, {sets(one, wrongNames), impl.ErrTwice}, {sets(wrongNames, one), impl.ErrType}, {sets(names, set("ref", intAtom(1))), impl.ErrTwice}, {sets(set("ref", intAtom(1)), names), impl.ErrType},
		{sets(column, column), impl.ErrColumn}, {sets(column, one, one), impl.ErrColumn}, {sets(one, column, one), impl.ErrColumn}, {sets(one, one, column), impl.ErrTwice}, {sets(kind, column), impl.ErrType}, {sets(column, kind), impl.ErrColumn},
		{sets(text, kind, one), impl.ErrType}, {sets(text, one, kind), impl.ErrTwice}, {sets(text, text, kind), impl.ErrTwice}, {sets(text, kind, text), impl.ErrType}, {sets(one, text, column, kind), impl.ErrColumn},
		{sets(one, set("must"), set("many"), text, set("bool"), names), impl.OK}, {sets(one, set("must"), set("many"), text, set("bool"), one), impl.ErrTwice}, {sets(one, set("must"), set("many"), text, set("bool"), column), impl.ErrColumn}, {sets(one, set("must"), set("many"), text, set("bool"), naming("must", "p")), impl.ErrTwice}, {sets(one, set("must"), set("many"), text, names, naming("bool", "p")), impl.ErrType},
	}
}

func TestRowsOfOperations(t *testing.T) {
	s := schema(askedTable())
	for _, c := range rowCases() {
		for _, kind := range kindsWith("R") {
			opCodeIs(t, "some sets", s, impl.Op{Kind: kind, Table: "t", Row: c.list}, c.code)
		}
	}
	for _, c := range rightColumns() {
		c.Ref = map[bool]string{true: "t"}[c.Kind == impl.AtUuid]
		one := schema(table("t", c))
		for _, kind := range kindsWith("R") {
			for _, d := range rightSets() {
				want := map[bool]int{true: impl.OK, false: impl.ErrType}[len(d) == 0 || d[0].Kind == c.Kind]
				opCodeIs(t, "a Value, whether it fits or not", one, impl.Op{Kind: kind, Table: "t", Row: sets(set(c.Name, d...))}, want)
			}
			for _, names := range [][]string{{"p"}, {"p", "p"}, {"a", "b", "c", "d", "e", "f", "g", "h"}} {
				want := map[bool]int{true: impl.OK, false: impl.ErrType}[c.Kind == impl.AtUuid]
				opCodeIs(t, "Names, whether they fit or not", one, impl.Op{Kind: kind, Table: "t", Row: sets(naming(c.Name, names...))}, want)
			}
			opCodeIs(t, "no Names", one, impl.Op{Kind: kind, Table: "t", Row: sets(impl.Set{Column: c.Name, Names: []string{}})}, impl.OK)
		}
	}
}

// fault makes a part of an operation for askedTable wrong, which gives it a code.
type fault struct {
	part string
	code int
	make func(o *impl.Op)
}

// faults are those of all parts, in the order in which parts are looked at.
func faults() [][]fault {
	return [][]fault{
		{{"T", impl.ErrTable, func(o *impl.Op) { o.Table = "x" }}},
		{{"N", impl.ErrForm, func(o *impl.Op) { o.Name = "9" }}},
		{{"C", impl.ErrColumn, func(o *impl.Op) { o.Columns = []string{"one", "x"} }}},
		{
			{"W", impl.ErrColumn, func(o *impl.Op) { o.Where = conds(cond("one", impl.CoEq), cond("x", impl.CoEq)) }},
			{"W", impl.ErrType, func(o *impl.Op) { o.Where = conds(cond("one", impl.CoEq, textAtom("a")), cond("x", impl.CoEq)) }},
		},
		{
			{"R", impl.ErrColumn, func(o *impl.Op) { o.Row = sets(set("one"), set("x")) }},
			{"R", impl.ErrTwice, func(o *impl.Op) { o.Row = sets(set("one"), set("one", textAtom("a"))) }},
			{"R", impl.ErrType, func(o *impl.Op) { o.Row = sets(set("one", textAtom("a")), set("x")) }},
		},
		{
			{"M", impl.ErrColumn, func(o *impl.Op) { o.Muts = muts(mut("one", impl.MuDelete), mut("x", impl.MuAdd, intAtom(1))) }},
			{"M", impl.ErrType, func(o *impl.Op) { o.Muts = muts(mut("text", impl.MuAdd, textAtom("a")), mut("x", impl.MuDelete)) }},
		},
	}
}

// eachFaulty does something with all operations that come of one by at most one fault of each part that its kind has a use for.
// The code of the first part that has one is theirs.
func eachFaulty(o impl.Op, code int, parts [][]fault, do func(o impl.Op, code int)) {
	if len(parts) == 0 {
		do(o, code)
		return
	}
	eachFaulty(o, code, parts[1:], do)
	uses, _ := partsOf(o.Kind)
	for _, f := range parts[0] {
		if strings.Contains(uses, f.part) {
			made := o
			f.make(&made)
			first := code
			if first == impl.OK {
				first = f.code
			}
			eachFaulty(made, first, parts[1:], do)
		}
	}
}

// Of several faults in one operation the first part that has one gives the code, whatever the others have.
func TestWhichCodeOfAnOperationIsDue(t *testing.T) {
	s := schema(askedTable())
	for kind, ways := range map[int]int{
		impl.OpInsert: 2 * 2 * 4, impl.OpSelect: 2 * 2 * 3, impl.OpUpdate: 2 * 3 * 4, impl.OpMutate: 2 * 3 * 3, impl.OpDelete: 2 * 3, impl.OpWait: 2 * 3 * 4,
	} {
		eachFaulty(impl.Op{Kind: kind, Table: "t"}, impl.OK, faults(), func(o impl.Op, code int) {
			ways--
			opCodeIs(t, "faults", s, o, code)
		})
		if ways != 0 {
			t.Errorf("kind %d: %d ways are left", kind, ways)
		}
	}
}

// A right operation for a schema that is not right has no code but ErrBad, whatever it is for.
func TestOperationsOfWrongSchemas(t *testing.T) {
	right := []impl.Op{
		{Kind: impl.OpInsert, Table: "t", Row: sets(set("a"))}, {Kind: impl.OpSelect, Table: "x"}, {Kind: impl.OpDelete, Table: "s", Where: conds(cond("x", impl.CoEq))},
		{Kind: impl.OpCommit}, {Kind: impl.OpAbort}, {Kind: impl.OpComment, Name: "any words"}, {Kind: impl.OpAssert, Name: "9"}, {Kind: impl.OpAssert, Name: "lock"},
	}
	wrong := 0
	for _, s := range someSchemas() {
		for _, o := range right {
			first, code := impl.OpCode(s, o)
			if !impl.SchemaOK(s) {
				wrong++
				if first != impl.OK || code != impl.ErrBad {
					t.Errorf("%s: OpCode(%s) is %d, %d", brief(s), brief(o), first, code)
				}
			} else if code != impl.OK {
				t.Errorf("%s: OpCode(%s) is %d, %d", brief(s), brief(o), first, code)
			}
		}
	}
	if wrong < 200 {
		t.Errorf("only %d were of wrong schemas", wrong)
	}
}
