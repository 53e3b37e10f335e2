package tests

import (
	"fmt"
	"math"
	"reflect"
	"slices"
	"strings"
	"testing"

	"loop.example/g00524/impl"
)

// The operations, a call a kind.
func insertOp(table, name string, row ...impl.Set) impl.Op {
	return impl.Op{Kind: impl.OpInsert, Table: table, Name: name, Row: row}
}

func selectOp(table string, where []impl.Cond, columns ...string) impl.Op {
	return impl.Op{Kind: impl.OpSelect, Table: table, Where: where, Columns: columns}
}

func updateOp(table string, where []impl.Cond, row ...impl.Set) impl.Op {
	return impl.Op{Kind: impl.OpUpdate, Table: table, Where: where, Row: row}
}

func mutateOp(table string, where []impl.Cond, list ...impl.Mut) impl.Op {
	return impl.Op{Kind: impl.OpMutate, Table: table, Where: where, Muts: list}
}

func deleteOp(table string, where ...impl.Cond) impl.Op {
	return impl.Op{Kind: impl.OpDelete, Table: table, Where: where}
}

func waitOp(table string, until bool, where []impl.Cond, row ...impl.Set) impl.Op {
	return impl.Op{Kind: impl.OpWait, Table: table, Until: until, Where: where, Row: row}
}

func commitOp() impl.Op { return impl.Op{Kind: impl.OpCommit} }

func abortOp() impl.Op { return impl.Op{Kind: impl.OpAbort} }

func commentOp(said string) impl.Op { return impl.Op{Kind: impl.OpComment, Name: said} }

func assertOp(lock string) impl.Op { return impl.Op{Kind: impl.OpAssert, Name: lock} }

func ops(list ...impl.Op) []impl.Op { return list }

func results(list ...impl.Result) []impl.Result { return list }

// Conditions on a name and on Ids.
func nameIs(s string) []impl.Cond { return conds(cond("name", impl.CoEq, textAtom(s))) }

func idIs(id int) []impl.Cond { return conds(cond("_uuid", impl.CoEq, idAtom(id))) }

func idNot(list ...int) []impl.Cond { return conds(cond("_uuid", impl.CoExcludes, ids(list...)...)) }

func nameSet(s string) impl.Set { return set("name", textAtom(s)) }

// alike tells whether two values are alike, empty lists and nil being the same.
func alike(a, b any) bool {
	return reflect.DeepEqual(again(reflect.ValueOf(a), true, 0).Interface(), again(reflect.ValueOf(b), true, 0).Interface())
}

// lastCode is the code of the last result, OK if there is none.
func lastCode(list []impl.Result) int {
	if len(list) == 0 {
		return impl.OK
	}
	return list[len(list)-1].Code
}

// txnHolds tells what must hold of any transaction on a right store, whatever comes of it, and answers what does.
func txnHolds(t *testing.T, what string, s impl.Schema, x impl.Store, list []impl.Op, owned []string) (impl.Store, []impl.Result) {
	t.Helper()
	y, told, code := impl.Transact(s, x, list, owned)
	if code != impl.OK || !impl.StoreOK(s, y) {
		t.Errorf("%s: Transact is %s, %s, %d", what, brief(y), brief(told), code)
		return y, told
	}
	failed, code := impl.Failed(told)
	if code != impl.OK || failed != (lastCode(told) != impl.OK) {
		t.Errorf("%s: Failed(%s) is %v, %d", what, brief(told), failed, code)
	}
	for i, r := range told {
		if !impl.ResultOK(r) || r.Code != impl.OK && i < len(told)-1 {
			t.Errorf("%s: the results are %s", what, brief(told))
		}
	}
	if failed && !alikeStores(y, x) {
		t.Errorf("%s: with the code %d the store is %s, not %s", what, lastCode(told), brief(y), brief(x))
	}
	if !failed {
		doneHolds(t, what, s, x, y, list, told)
	}
	return y, told
}

// doneHolds tells what must hold of a transaction without a code.
func doneHolds(t *testing.T, what string, s impl.Schema, x, y impl.Store, list []impl.Op, told []impl.Result) {
	t.Helper()
	numbers, _ := impl.InsertIds(list, x.Next)
	next := x.Next
	for _, id := range numbers {
		next = max(next, id+1)
	}
	if len(told) != len(list) || y.Next != next {
		t.Errorf("%s: %d results of %d operations, Next is %d, not %d", what, len(told), len(list), y.Next, next)
	}
	nothingLoose(t, what, s, y)
	if pruned, code := impl.Prune(s, y); !alikeStores(pruned, y) || code != impl.OK {
		t.Errorf("%s: pruned once more it is %s, %d", what, brief(pruned), code)
	}
	if first, code := impl.CommitCode(s, y); first != impl.OK || code != impl.OK {
		t.Errorf("%s: CommitCode is %d, %d", what, first, code)
	}
}

// nothingLoose tells that no row is there that nobody holds, where it must be held, and no atom whose row is not there,
// of columns that are not Strong.
func nothingLoose(t *testing.T, what string, s impl.Schema, x impl.Store) {
	t.Helper()
	for i, list := range x.Tables {
		for _, r := range list {
			if count, code := impl.StrongCount(s, x, i, r.Id); code != impl.OK || count == 0 && !s.Tables[i].Root {
				t.Errorf("%s: row %d of %s is held by %d, code %d", what, r.Id, s.Tables[i].Name, count, code)
			}
			for k, c := range s.Tables[i].Columns {
				if c.Kind != impl.AtUuid || c.Strong {
					continue
				}
				ref, _ := impl.TableOf(s, c.Ref)
				for _, a := range r.Cells[k] {
					if _, code := impl.RowAt(x, ref, a.N); code != impl.OK {
						t.Errorf("%s: row %d of %s refers to %d, which is not there", what, r.Id, s.Tables[i].Name, a.N)
					}
				}
			}
		}
	}
}

// doneAs tells that a transaction has no code, which store it makes and which results it has.
func doneAs(t *testing.T, what string, s impl.Schema, x impl.Store, list []impl.Op, want impl.Store, wantTold ...impl.Result) {
	t.Helper()
	y, told := txnHolds(t, what, s, x, list, nil)
	if !alikeStores(y, want) || !alike(told, wantTold) {
		t.Errorf("%s: Transact is %s, %s, not %s, %s", what, brief(y), brief(told), brief(want), brief(wantTold))
	}
}

// failsAs tells which results a transaction has, the last of which has a code, and that it leaves all as it was.
func failsAs(t *testing.T, what string, s impl.Schema, x impl.Store, list []impl.Op, wantTold ...impl.Result) {
	t.Helper()
	if lastCode(wantTold) == impl.OK {
		t.Fatalf("%s: no code is asked for", what)
	}
	if _, told := txnHolds(t, what, s, x, list, nil); !alike(told, wantTold) {
		t.Errorf("%s: the results are %s, not %s", what, brief(told), brief(wantTold))
	}
}

func coded(code int) impl.Result { return impl.Result{Code: code} }

func counted(count int) impl.Result { return impl.Result{Count: count} }

func numberOf(id int) impl.Result { return impl.Result{Id: id} }

// idsAre tells what InsertIds answers.
func idsAre(t *testing.T, what string, list []impl.Op, next int, want []int, wantCode int) {
	t.Helper()
	if got, code := impl.InsertIds(list, next); !slices.Equal(got, want) || code != wantCode {
		t.Errorf("%s: InsertIds(%s, %d) is %v, %d, not %v, %d", what, brief(list), next, got, code, want, wantCode)
	}
}

// oneOfEach is a right operation of each kind, the inserts by their places among them.
func oneOfEach() []impl.Op {
	return ops(insertOp("note", "a"), selectOp("note", nil), updateOp("note", nil), mutateOp("note", nil), deleteOp("note"), waitOp("note", true, nil), commitOp(), abortOp(), commentOp("c"), assertOp("l"))
}

func TestNumbersOfInserts(t *testing.T) {
	for _, none := range [][]impl.Op{nil, {}} {
		idsAre(t, "no operation", none, 5, nil, impl.OK)
	}
	for i, o := range oneOfEach() {
		want := []int{0}
		if i == 0 {
			want = []int{7}
		}
		idsAre(t, "one operation", ops(o), 7, want, impl.OK)
		if o.Kind != impl.OpInsert {
			idsAre(t, "among inserts", ops(insertOp("x", ""), o, insertOp("", "9"), o, o, insertOp("port", "p")), 7, []int{7, 0, 8, 0, 0, 9}, impl.OK)
			idsAre(t, "ahead of and behind inserts", ops(o, o, insertOp("port", "p"), insertOp("port", "p"), o), 1, []int{0, 0, 1, 2, 0}, impl.OK)
		}
	}
	for bits := range 256 {
		var list []impl.Op
		var want []int
		next := 40
		for i := range 8 {
			if bits>>i&1 == 1 {
				list, want, next = append(list, insertOp("port", "")), append(want, next), next+1
			} else {
				list, want = append(list, commitOp()), append(want, 0)
			}
		}
		idsAre(t, fmt.Sprintf("inserts %08b", bits), list, 40, want, impl.OK)
	}
}

func TestWhereNumbersOfInsertsBegin(t *testing.T) {
	two := ops(insertOp("port", ""), commitOp(), insertOp("port", ""))
	for _, next := range []int{1, 2, 3, 999998, 999999, 1000000} {
		idsAre(t, "from next on", two, next, []int{next, 0, next + 1}, impl.OK)
		idsAre(t, "from next on, 8", slices.Repeat(two[:1], 8), next, []int{next, next + 1, next + 2, next + 3, next + 4, next + 5, next + 6, next + 7}, impl.OK)
		idsAre(t, "from next on, none", nil, next, nil, impl.OK)
		idsAre(t, "from next on, no insert", two[1:2], next, []int{0}, impl.OK)
	}
	for _, next := range []int{math.MinInt, -1000000, -1, 0, 1000001, 1 << 32, 1<<32 + 1, math.MaxInt} {
		for _, list := range [][]impl.Op{nil, two, two[1:2], slices.Repeat(two, 2), slices.Repeat(two[:1], 8)} {
			idsAre(t, "no next", list, next, nil, impl.ErrRange)
		}
	}
}

func TestWhichCodeOfInsertsIsDue(t *testing.T) {
	wrong := impl.Op{}
	for count, code := range map[int]int{8: impl.OK, 9: impl.ErrMany, 10: impl.ErrMany, impl.MaxList: impl.ErrMany, impl.MaxList + 1: impl.ErrLong, impl.MaxList * 2: impl.ErrLong} {
		for _, next := range []int{0, 5, 1000001} {
			list := slices.Repeat(ops(commitOp()), count)
			want := code
			if code == impl.OK && next != 5 {
				want = impl.ErrRange
			}
			zeros := make([]int, count)
			if want != impl.OK {
				zeros = nil
			}
			idsAre(t, fmt.Sprintf("%d operations", count), list, next, zeros, want)
			if code == impl.OK {
				want = impl.ErrBad
			}
			for _, place := range []int{0, 4, count - 1} {
				spoilt := slices.Clone(list)
				spoilt[place] = wrong
				idsAre(t, fmt.Sprintf("%d operations, one wrong", count), spoilt, next, nil, want)
			}
		}
	}
	for what, o := range wrongOps() {
		idsAre(t, what, ops(o), 5, nil, impl.ErrBad)
		idsAre(t, what, ops(insertOp("port", ""), o), 5, nil, impl.ErrBad)
		idsAre(t, what, ops(insertOp("port", ""), o), 0, nil, impl.ErrBad)
	}
}

// wrongOps are not right, each by another part.
func wrongOps() map[string]impl.Op {
	long := strings.Repeat("n", impl.MaxName+1)
	return map[string]impl.Op{
		"nothing":                    {},
		"kind 11":                    {Kind: 11},
		"a kind below 0":             {Kind: -1, Table: "port"},
		"a commit with a Name":       {Kind: impl.OpCommit, Name: "n"},
		"an abort with a Table":      {Kind: impl.OpAbort, Table: "port"},
		"an insert with a Where":     {Kind: impl.OpInsert, Table: "port", Where: nameIs("p")},
		"an insert with Until":       {Kind: impl.OpInsert, Table: "port", Until: true},
		"a delete with a Row":        {Kind: impl.OpDelete, Table: "port", Row: sets(nameSet("p"))},
		"a select with Muts":         {Kind: impl.OpSelect, Table: "port", Muts: muts(mut("tag", impl.MuDelete))},
		"an update with Columns":     {Kind: impl.OpUpdate, Table: "port", Columns: []string{"name"}},
		"a long Table":               deleteOp(long),
		"a long Name":                insertOp("port", long),
		"a long comment":             commentOp(long),
		"a long lock":                assertOp(long),
		"a long Column":              selectOp("port", nil, long),
		"seven Columns":              selectOp("port", nil, slices.Repeat([]string{"name"}, 7)...),
		"nine conditions":            deleteOp("port", slices.Repeat(nameIs("p"), 9)...),
		"a wrong condition":          deleteOp("port", impl.Cond{}),
		"nine mutations":             mutateOp("port", nil, slices.Repeat(muts(mut("tag", impl.MuDelete)), 9)...),
		"a wrong mutation":           mutateOp("port", nil, impl.Mut{}),
		"seven sets":                 insertOp("port", "", slices.Repeat(sets(nameSet("p")), 7)...),
		"a Value that does not rise": insertOp("port", "", set("name", textAtom("b"), textAtom("a"))),
		"a Value and Names":          insertOp("switch", "", impl.Set{Column: "ports", Value: ids(2), Names: []string{"p"}}),
		"a wrong name":               insertOp("switch", "", naming("ports", "9")),
		"nine Names":                 insertOp("switch", "", naming("ports", slices.Repeat([]string{"p"}, 9)...)),
	}
}

// opCase is an operation on smallStore, and what comes of it.
type opCase struct {
	what string
	op   impl.Op
	told impl.Result
}

// opCases are all kinds of operations with and without each of their codes, where an insert of a port called taken is
// ahead, and lock is owned.
func opCases() []opCase {
	text := textAtom("a")
	return []opCase{
		{"an insert", insertOp("note", ""), numberOf(0)},
		{"an insert with a name", insertOp("note", "new", nameSet("m")), numberOf(0)},
		{"an insert into no table", insertOp("x", ""), coded(impl.ErrTable)},
		{"an insert with no right name", insertOp("note", "9"), coded(impl.ErrForm)},
		{"an insert of no column", insertOp("note", "", set("x")), coded(impl.ErrColumn)},
		{"an insert of the Id", insertOp("note", "", set("_uuid", idAtom(40))), coded(impl.ErrColumn)},
		{"an insert of a column twice", insertOp("note", "", nameSet("m"), nameSet("m")), coded(impl.ErrTwice)},
		{"an insert of another kind", insertOp("note", "", set("name", intAtom(1))), coded(impl.ErrType)},
		{"an insert of names among texts", insertOp("note", "", naming("name", "taken")), coded(impl.ErrType)},
		{"an insert of a name of none", insertOp("switch", "", naming("ports", "nobody")), coded(impl.ErrRef)},
		{"an insert of a name that is taken", insertOp("note", "taken"), coded(impl.ErrTwice)},
		{"an insert of too few", insertOp("note", "", set("name")), coded(impl.ErrMany)},
		{"an insert of too many", insertOp("note", "", set("name", textAtom("a"), textAtom("b"))), coded(impl.ErrMany)},
		{"an insert of a number below", insertOp("switch", "", set("count", intAtom(-1001))), coded(impl.ErrRange)},
		{"an insert of a number above", insertOp("switch", "", set("count", intAtom(1001))), coded(impl.ErrRange)},
		{"a select", selectOp("switch", nameIs("s"), "count"), impl.Result{Columns: []string{"count"}, Rows: rows(row(3, numbersOf(0)))}},
		{"a select of no table", selectOp("x", nil), coded(impl.ErrTable)},
		{"a select of no column", selectOp("port", nil, "name", "count"), coded(impl.ErrColumn)},
		{"a select by no column", selectOp("port", conds(cond("count", impl.CoEq)), "name"), coded(impl.ErrColumn)},
		{"a select by another kind", selectOp("port", conds(cond("tag", impl.CoEq, text)), "name"), coded(impl.ErrType)},
		{"a select by the order of texts", selectOp("port", conds(cond("name", impl.CoLt, text)), "name"), coded(impl.ErrType)},
		{"an update", updateOp("switch", nil, set("count", intAtom(9))), counted(2)},
		{"an update of no table", updateOp("x", nil), coded(impl.ErrTable)},
		{"an update by no column", updateOp("port", conds(cond("x", impl.CoEq))), coded(impl.ErrColumn)},
		{"an update by another kind", updateOp("port", conds(cond("tag", impl.CoNe, text))), coded(impl.ErrType)},
		{"an update of no column", updateOp("port", nil, set("count")), coded(impl.ErrColumn)},
		{"an update of a column twice", updateOp("port", nil, set("tag"), set("tag")), coded(impl.ErrTwice)},
		{"an update of another kind", updateOp("port", nil, set("tag", text)), coded(impl.ErrType)},
		{"an update of names among numbers", updateOp("port", nil, naming("tag", "taken")), coded(impl.ErrType)},
		{"an update of a name of none", updateOp("switch", nil, naming("ports", "taken", "nobody")), coded(impl.ErrRef)},
		{"an update of too few", updateOp("port", nil, set("up")), coded(impl.ErrMany)},
		{"an update of too many", updateOp("note", nil, set("about", ids(1, 2, 3, 4, 5)...)), coded(impl.ErrMany)},
		{"an update of a number above", updateOp("port", idIs(2), set("tag", intAtom(100))), coded(impl.ErrRange)},
		{"a mutation", mutateOp("switch", nil, mut("count", impl.MuAdd, intAtom(1000))), counted(2)},
		{"a mutation in no table", mutateOp("x", nil), coded(impl.ErrTable)},
		{"a mutation by no column", mutateOp("port", conds(cond("x", impl.CoEq))), coded(impl.ErrColumn)},
		{"a mutation by another kind", mutateOp("port", conds(cond("up", impl.CoEq, text))), coded(impl.ErrType)},
		{"a mutation of no column", mutateOp("port", nil, mut("count", impl.MuAdd, intAtom(1))), coded(impl.ErrColumn)},
		{"a mutation of another kind", mutateOp("switch", nil, mut("count", impl.MuInsert, text)), coded(impl.ErrType)},
		{"a sum of a text", mutateOp("switch", nil, mut("name", impl.MuAdd, intAtom(1))), coded(impl.ErrType)},
		{"a division by 0", mutateOp("switch", nil, mut("count", impl.MuDiv, intAtom(0))), coded(impl.ErrRange)},
		{"a sum above", mutateOp("switch", nil, mut("count", impl.MuAdd, intAtom(1001))), coded(impl.ErrRange)},
		{"a mutation to too few", mutateOp("switch", nil, mut("count", impl.MuDelete, intAtom(0))), coded(impl.ErrMany)},
		{"a mutation to too many", mutateOp("switch", nil, mut("count", impl.MuInsert, intAtom(1))), coded(impl.ErrMany)},
		{"a delete", deleteOp("switch", nameIs("s")...), counted(1)},
		{"a delete in no table", deleteOp("x"), coded(impl.ErrTable)},
		{"a delete by no column", deleteOp("port", cond("x", impl.CoEq)), coded(impl.ErrColumn)},
		{"a delete by another kind", deleteOp("port", cond("up", impl.CoEq, idAtom(1))), coded(impl.ErrType)},
		{"a wait", waitOp("switch", true, nil, set("count", intAtom(0))), coded(impl.OK)},
		{"a wait for what is not so", waitOp("switch", true, nil, set("count", intAtom(1))), coded(impl.ErrWait)},
		{"a wait in no table", waitOp("x", true, nil), coded(impl.ErrTable)},
		{"a wait by no column", waitOp("port", true, conds(cond("x", impl.CoEq))), coded(impl.ErrColumn)},
		{"a wait by another kind", waitOp("port", true, conds(cond("name", impl.CoEq, intAtom(1)))), coded(impl.ErrType)},
		{"a wait for no column", waitOp("port", true, nil, set("x")), coded(impl.ErrColumn)},
		{"a wait for a column twice", waitOp("port", true, nil, set("tag"), set("tag")), coded(impl.ErrTwice)},
		{"a wait for another kind", waitOp("port", true, nil, set("tag", text)), coded(impl.ErrType)},
		{"a wait for a name of none", waitOp("note", false, nil, naming("about", "nobody")), coded(impl.ErrRef)},
		{"a commit", commitOp(), coded(impl.OK)},
		{"an abort", abortOp(), coded(impl.ErrAbort)},
		{"a comment", commentOp("any words"), coded(impl.OK)},
		{"a comment of nothing", commentOp(""), coded(impl.OK)},
		{"an assert", assertOp("lock"), coded(impl.OK)},
		{"an assert of another lock", assertOp("other"), coded(impl.ErrOwner)},
		{"an assert of no name", assertOp(""), coded(impl.ErrForm)},
		{"an assert of no right name", assertOp("9"), coded(impl.ErrForm)},
	}
}

// Each kind with and without each of its codes, first, last and between others: behind a code nothing is done any more.
func TestOperationsWithAndWithoutCodes(t *testing.T) {
	s, x := impl.PlainSchema(), smallStore()
	for _, c := range opCases() {
		for ahead := 1; ahead <= 7; ahead++ {
			for behind := range 8 - ahead {
				list := append(ops(insertOp("port", "taken")), slices.Repeat(ops(insertOp("note", "")), ahead-1)...)
				want := results(numberOf(20))
				for i := range ahead - 1 {
					want = append(want, numberOf(21+i))
				}
				told := c.told
				if c.op.Kind == impl.OpInsert && told.Code == impl.OK {
					told.Id = 20 + ahead
				}
				want = append(want, told)
				list = append(list, c.op)
				for range behind {
					list = append(list, commentOp("behind"))
					if told.Code == impl.OK {
						want = append(want, impl.Result{})
					}
				}
				what := fmt.Sprintf("%s with %d ahead, %d behind", c.what, ahead, behind)
				if _, got := txnHolds(t, what, s, x, list, []string{"lock"}); !alike(got, want) {
					t.Errorf("%s: the results are %s, not %s", what, brief(got), brief(want))
				}
			}
		}
	}
}

// Behind a code an operation with another one, or one that would mend it, does not count.
func TestUpToTheFirstCode(t *testing.T) {
	s, x := impl.PlainSchema(), smallStore()
	failing := []opCase{}
	for _, c := range opCases() {
		if c.told.Code != impl.OK && c.told.Code != impl.ErrTwice {
			failing = append(failing, c)
		}
	}
	for _, first := range failing {
		for _, second := range failing {
			failsAs(t, first.what+", then "+second.what, s, x, ops(first.op, second.op, abortOp()), first.told)
			failsAs(t, first.what+", then "+second.what, s, x, ops(deleteOp("note", idIs(9)...), commitOp(), first.op, insertOp("port", "other"), second.op), counted(1), impl.Result{}, first.told)
		}
	}
}

func TestNoOperations(t *testing.T) {
	s := impl.PlainSchema()
	for _, none := range [][]impl.Op{nil, {}} {
		doneAs(t, "no operation", s, smallStore(), none, smallStore())
		doneAs(t, "no operation on nothing", s, store(1, nil, nil, nil), none, store(1, nil, nil, nil))
		doneAs(t, "no operation at the end of numbers", s, withNext(smallStore(), 1000000), none, withNext(smallStore(), 1000000))
	}
	for _, o := range []impl.Op{commitOp(), commentOp("c"), selectOp("port", idIs(99), "name"), updateOp("port", idIs(99)), waitOp("port", true, nil), deleteOp("note", idIs(99)...)} {
		y, _ := txnHolds(t, "nothing is done", s, smallStore(), slices.Repeat(ops(o), 8), nil)
		if !alikeStores(y, smallStore()) {
			t.Errorf("%s makes another store: %s", brief(o), brief(y))
		}
	}
}

func TestAborts(t *testing.T) {
	s, x := impl.PlainSchema(), smallStore()
	failsAs(t, "alone", s, x, ops(abortOp()), coded(impl.ErrAbort))
	failsAs(t, "twice", s, x, ops(abortOp(), abortOp()), coded(impl.ErrAbort))
	failsAs(t, "behind all kinds", s, x,
		ops(insertOp("note", ""), updateOp("switch", nil, set("count", intAtom(5))), mutateOp("port", nil, mut("tag", impl.MuInsert, intAtom(4))), deleteOp("switch", nameIs("t")...), deleteOp("note"), commitOp(), abortOp(), insertOp("note", "")),
		numberOf(20), counted(2), counted(2), counted(1), counted(3), impl.Result{}, coded(impl.ErrAbort))
	failsAs(t, "the last of eight", s, x, append(slices.Repeat(ops(insertOp("note", "")), 7), abortOp()),
		numberOf(20), numberOf(21), numberOf(22), numberOf(23), numberOf(24), numberOf(25), numberOf(26), coded(impl.ErrAbort))
}

func TestAsserts(t *testing.T) {
	s, x := impl.PlainSchema(), smallStore()
	longName := strings.Repeat("l", impl.MaxName)
	many := slices.Repeat([]string{"other", "", longName + "l", strings.Repeat("x", impl.MaxText+1)}, impl.MaxList/4)
	for what, c := range map[string]struct {
		owned []string
		name  string
		code  int
	}{
		"nothing owned":             {nil, "lock", impl.ErrOwner},
		"an empty list":             {[]string{}, "lock", impl.ErrOwner},
		"the one":                   {[]string{"lock"}, "lock", impl.OK},
		"another one":               {[]string{"other"}, "lock", impl.ErrOwner},
		"the first":                 {[]string{"lock", "other"}, "lock", impl.OK},
		"the last":                  {[]string{"other", "another", "lock"}, "lock", impl.OK},
		"in no order, twice":        {[]string{"z", "lock", "a", "lock"}, "lock", impl.OK},
		"a beginning of it":         {[]string{"loc"}, "lock", impl.ErrOwner},
		"it begins with it":         {[]string{"locks"}, "lock", impl.ErrOwner},
		"in other letters":          {[]string{"Lock", "LOCK", " lock", "lock "}, "lock", impl.ErrOwner},
		"the longest name":          {[]string{longName}, longName, impl.OK},
		"a longer name":             {[]string{longName + "l"}, longName, impl.ErrOwner},
		"no name that is owned":     {[]string{""}, "", impl.ErrForm},
		"no name":                   {nil, "", impl.ErrForm},
		"no right name, owned":      {[]string{"9", "a b"}, "9", impl.ErrForm},
		"no right name, not owned":  {nil, "a b", impl.ErrForm},
		"many owned, not this one":  {many, "lock", impl.ErrOwner},
		"many owned, this one last": {append(slices.Clone(many[:impl.MaxList-1]), "lock"), "lock", impl.OK},
		"many owned, one of them":   {many, "other", impl.OK},
	} {
		_, told := txnHolds(t, what, s, x, ops(assertOp(c.name)), c.owned)
		if !alike(told, results(coded(c.code))) {
			t.Errorf("%s: the results are %s, not with %d", what, brief(told), c.code)
		}
	}
	_, told := txnHolds(t, "both owned", s, x, ops(assertOp("b"), assertOp("a"), assertOp("b")), []string{"a", "b"})
	if len(told) != 3 || lastCode(told) != impl.OK {
		t.Errorf("both owned: %s", brief(told))
	}
	_, told = txnHolds(t, "one owned", s, x, ops(assertOp("b"), insertOp("note", ""), assertOp("a"), assertOp("b")), []string{"b"})
	if len(told) != 3 || lastCode(told) != impl.ErrOwner {
		t.Errorf("one owned: %s", brief(told))
	}
}
