package tests

import (
	"fmt"
	"math/rand"
	"reflect"
	"slices"
	"sync"
	"testing"

	"loop.example/g00524/impl"
)

// saidTxn is a transaction as chapter 10 of the document tells it, told once more by the calls of the chapters ahead.
type saidTxn struct {
	s       impl.Schema
	y       impl.Store
	list    []impl.Op
	owned   []string
	numbers map[int]int
	first   map[string]int
}

// txnSays answers what the document says of a transaction of right operations on a right store.
func txnSays(s impl.Schema, x impl.Store, list []impl.Op, owned []string) (impl.Store, []impl.Result) {
	said := saidTxn{s, copyStore(x), list, owned, map[int]int{}, map[string]int{}}
	for place, o := range list {
		if o.Kind != impl.OpInsert {
			continue
		}
		said.numbers[place] = said.y.Next
		if said.first[o.Name] == 0 {
			said.first[o.Name] = said.y.Next
		}
		said.y.Next++
	}
	var told []impl.Result
	for place := range list {
		told = append(told, said.done(place))
		if lastCode(told) != impl.OK {
			return x, told
		}
	}
	pruned := prunedSays(s, said.y)
	if code := commitSays(s, pruned); code != impl.OK {
		return x, append(told, coded(code))
	}
	return pruned, told
}

func (said *saidTxn) done(place int) impl.Result {
	o := said.list[place]
	if code, _ := impl.OpCode(said.s, o); code != impl.OK {
		return coded(code)
	}
	switch o.Kind {
	case impl.OpAbort:
		return coded(impl.ErrAbort)
	case impl.OpAssert:
		for _, name := range said.owned {
			if name == o.Name {
				return impl.Result{}
			}
		}
		return coded(impl.ErrOwner)
	case impl.OpCommit, impl.OpComment:
		return impl.Result{}
	}
	var row []impl.Set
	for _, x := range o.Row {
		all := slices.Clone(x.Value)
		for _, name := range x.Names {
			if said.first[name] == 0 {
				return coded(impl.ErrRef)
			}
			all = append(all, idAtom(said.first[name]))
		}
		row = append(row, impl.Set{Column: x.Column, Value: sortedOnce(all)})
	}
	table, _ := impl.TableOf(said.s, o.Table)
	if o.Kind == impl.OpInsert {
		return said.inserted(place, table, row)
	}
	return said.chosen(o, table, row)
}

func (said *saidTxn) inserted(place, table int, list []impl.Set) impl.Result {
	name, id := said.list[place].Name, said.numbers[place]
	if name != "" && said.first[name] != id {
		return coded(impl.ErrTwice)
	}
	if len(said.y.Tables[table]) == 12 {
		return coded(impl.ErrFull)
	}
	fresh, _ := impl.FreshRow(said.s.Tables[table], id)
	made, code := impl.SetRow(said.s.Tables[table], fresh, list)
	if code != impl.OK {
		return coded(code)
	}
	said.y, _ = impl.PutRow(said.y, table, made)
	return numberOf(id)
}

// chosen is what comes of an operation that is for the rows of its Where.
func (said *saidTxn) chosen(o impl.Op, table int, list []impl.Set) impl.Result {
	x := said.s.Tables[table]
	chosen, _ := impl.SelectIds(said.s, said.y, table, o.Where)
	told, so := impl.Result{}, len(chosen) > 0
	if o.Kind == impl.OpSelect {
		for _, c := range x.Columns {
			told.Columns = append(told.Columns, c.Name)
		}
		if len(o.Columns) > 0 {
			told.Columns = o.Columns
		}
	}
	for _, id := range chosen {
		r, _ := impl.RowAt(said.y, table, id)
		code := impl.OK
		switch o.Kind {
		case impl.OpSelect:
			picked, _ := impl.PickColumns(x, r, told.Columns)
			told.Rows = append(told.Rows, picked)
			continue
		case impl.OpDelete:
			said.y, _ = impl.DropRow(said.y, table, id)
			told.Count++
			continue
		case impl.OpWait:
			made, code := impl.SetRow(x, r, list)
			so = so && code == impl.OK && alikeRows(made, r)
			continue
		case impl.OpUpdate:
			r, code = impl.SetRow(x, r, list)
		case impl.OpMutate:
			r, code = impl.MutateRow(x, r, o.Muts)
		}
		if code != impl.OK {
			return coded(code)
		}
		said.y, _ = impl.PutRow(said.y, table, r)
		told.Count++
	}
	if o.Kind == impl.OpWait && so != o.Until {
		return coded(impl.ErrWait)
	}
	return told
}

// prunedSays is what the document says of a store that fits and is pruned.
func prunedSays(s impl.Schema, x impl.Store) impl.Store {
	y := copyStore(x)
	for rowsOf(y) > 0 {
		count := rowsOf(y)
		held, _ := holdersOf(s, y)
		for i := range y.Tables {
			y.Tables[i] = slices.DeleteFunc(y.Tables[i], func(r impl.Row) bool { return !s.Tables[i].Root && held[holder{s.Tables[i].Name, r.Id}] == 0 })
		}
		if rowsOf(y) == count {
			break
		}
	}
	there := map[holder]bool{}
	for i := range y.Tables {
		for _, r := range y.Tables[i] {
			there[holder{s.Tables[i].Name, r.Id}] = true
		}
	}
	for i := range y.Tables {
		for _, r := range y.Tables[i] {
			for k, c := range s.Tables[i].Columns {
				if c.Kind == impl.AtUuid && !c.Strong {
					r.Cells[k] = slices.DeleteFunc(r.Cells[k], func(a impl.Atom) bool { return !there[holder{c.Ref, a.N}] })
				}
			}
		}
	}
	return y
}

// commitSays is what the document says of the code of a store that fits.
func commitSays(s impl.Schema, x impl.Store) int {
	_, named := holdersOf(s, x)
	alike, code := map[string]int{}, impl.OK
	for i, list := range x.Tables {
		for _, r := range list {
			delete(named, holder{s.Tables[i].Name, r.Id})
			key := fmt.Sprint(i)
			for _, k := range s.Tables[i].Unique {
				key += fmt.Sprintf("|%+q", fmt.Sprintf("%+v", r.Cells[k]))
			}
			if alike[key]++; len(s.Tables[i].Unique) > 0 && alike[key] > 1 {
				code = impl.ErrUnique
			}
		}
	}
	if len(named) > 0 {
		return impl.ErrRef
	}
	return code
}

// someTxn answers operations for a schema and a store, most of which have no code.
func someTxn(r *rand.Rand, s impl.Schema, x impl.Store) []impl.Op {
	kinds := []int{1, 1, 1, 1, 1, 1, 2, 3, 3, 3, 4, 4, 4, 5, 6, 7, 9, 10}
	list := make([]impl.Op, r.Intn(9))
	names := map[string][]string{}
	for i := range list {
		list[i] = impl.Op{Kind: kinds[r.Intn(len(kinds))]}
		if r.Intn(150) == 0 {
			list[i].Kind = impl.OpAbort
		}
		list[i].Table = s.Tables[r.Intn(len(s.Tables))].Name
		if list[i].Kind == impl.OpInsert && r.Intn(5) > 0 {
			list[i].Name = fmt.Sprint("n", i)
			if r.Intn(60) == 0 {
				list[i].Name = "n0"
			}
			names[list[i].Table] = append(names[list[i].Table], list[i].Name)
		}
	}
	for i := range list {
		list[i] = someTxnOp(r, s, x, list[i], names)
	}
	return list
}

// someTxnOp fills the parts of an operation that its kind has a use for.
func someTxnOp(r *rand.Rand, s impl.Schema, x impl.Store, o impl.Op, names map[string][]string) impl.Op {
	place, _ := impl.TableOf(s, o.Table)
	t := s.Tables[place]
	uses, _ := partsOf(o.Kind)
	made := impl.Op{Kind: o.Kind}
	for _, part := range uses {
		switch part {
		case 'T':
			made.Table = o.Table
			if r.Intn(120) == 0 {
				made.Table = "zz"
			}
		case 'N':
			made.Name = o.Name
			if o.Kind != impl.OpInsert {
				made.Name = []string{"lock", "lock", "lock", "lock", "other"}[r.Intn(5)]
			}
		case 'W':
			made.Where = someWhere(r, t)
		case 'R':
			made.Row = someTxnRow(r, s, x, t, names)
		case 'M':
			for range r.Intn(3) {
				made.Muts = append(made.Muts, someMut(r, t))
			}
		case 'C':
			for range r.Intn(4) {
				made.Columns = append(made.Columns, someAskedName(r, t))
			}
		case 'U':
			made.Until = r.Intn(2) == 0
		}
	}
	return made
}

// someWhere answers conditions that have a code only now and then.
func someWhere(r *rand.Rand, t impl.Table) []impl.Cond {
	var list []impl.Cond
	for range r.Intn(3) {
		c := someCond(r, t)
		for codeSays(t, c) != impl.OK && r.Intn(20) > 0 {
			c = someCond(r, t)
		}
		list = append(list, c)
	}
	return list
}

// someTxnRow answers sets of a table's columns: of what is there, or of what comes, and now and then of what is neither.
func someTxnRow(r *rand.Rand, s impl.Schema, x impl.Store, t impl.Table, names map[string][]string) []impl.Set {
	var list []impl.Set
	for _, i := range r.Perm(len(t.Columns)) {
		c := t.Columns[i]
		ref, _ := impl.TableOf(s, c.Ref)
		switch called := names[c.Ref]; {
		case r.Intn(4) == 0:
		case r.Intn(80) == 0:
			list = append(list, someSetOf(r, c, true))
		case c.Kind == impl.AtUuid && len(called) > 0 && r.Intn(2) == 0:
			list = append(list, naming(c.Name, called[r.Intn(len(called))], called[r.Intn(len(called))]))
		case c.Kind == impl.AtUuid:
			var there []int
			for _, row := range x.Tables[ref] {
				there = append(there, row.Id)
			}
			if r.Intn(20) == 0 {
				there = append(there, 1+r.Intn(x.Next+8))
			}
			list = append(list, set(c.Name, someCell(r, c, there)...))
		default:
			list = append(list, set(c.Name, someCell(r, c, nil)...))
		}
	}
	return list
}

// txnTally counts what transactions came to, so that a test can tell whether it saw all of it.
type txnTally struct {
	codes, ends map[int]int
	done, gone  int
	less, kinds map[int]int
}

func newTally() txnTally {
	return txnTally{codes: map[int]int{}, ends: map[int]int{}, less: map[int]int{}, kinds: map[int]int{}}
}

// txnAsSaid tells that a transaction comes to what the document says, and answers the store that it makes.
func (tally *txnTally) txnAsSaid(t *testing.T, s impl.Schema, x impl.Store, list []impl.Op, owned []string) impl.Store {
	t.Helper()
	what := brief(s) + " " + brief(list)
	want, wantTold := txnSays(s, x, list, owned)
	y, told := txnHolds(t, what, s, x, list, owned)
	if !alikeStores(y, want) || !alike(told, wantTold) {
		t.Errorf("%s on %s: Transact is %s, %s, not %s, %s", what, brief(x), brief(y), brief(told), brief(want), brief(wantTold))
	}
	switch {
	case len(told) > len(list):
		tally.ends[lastCode(told)]++
	case lastCode(told) != impl.OK:
		tally.codes[lastCode(told)]++
		tally.less[len(told)]++
	case len(list) > 0:
		tally.done++
		for _, o := range list {
			tally.kinds[o.Kind]++
		}
		for place, r := range told {
			table, _ := impl.TableOf(s, list[place].Table)
			if list[place].Kind == impl.OpInsert {
				if _, code := impl.RowAt(y, table, r.Id); code != impl.OK {
					tally.gone++
				}
			}
		}
	}
	return y
}

// enough tells whether all kinds of ends and all codes were seen.
func (tally *txnTally) enough(t *testing.T, least int) {
	t.Helper()
	for _, code := range []int{impl.ErrTable, impl.ErrColumn, impl.ErrType, impl.ErrTwice, impl.ErrRef, impl.ErrFull, impl.ErrMany, impl.ErrRange, impl.ErrOwner, impl.ErrWait, impl.ErrAbort} {
		if tally.codes[code] < least {
			t.Errorf("only %d transactions have the code %d", tally.codes[code], code)
		}
	}
	for _, code := range []int{impl.ErrRef, impl.ErrUnique} {
		if tally.ends[code] < least {
			t.Errorf("only %d transactions end with the code %d", tally.ends[code], code)
		}
	}
	for kind := 1; kind <= 10; kind++ {
		if kind != impl.OpAbort && tally.kinds[kind] < least {
			t.Errorf("only %d operations of kind %d were done", tally.kinds[kind], kind)
		}
	}
	for count := 1; count <= 7; count++ {
		if tally.less[count] < least {
			t.Errorf("only %d transactions have a code in operation %d", tally.less[count], count)
		}
	}
	if tally.done < 10*least || tally.gone < least || len(tally.ends) != 2 {
		t.Errorf("%d are done, %d rows went, the ends are %v", tally.done, tally.gone, tally.ends)
	}
}

// One transaction behind the other, from a new store on: all stores are right, whatever comes.
func TestPromise10TransactionsBehindEachOther(t *testing.T) {
	r := rand.New(rand.NewSource(10))
	tally := newTally()
	for range 300 {
		s := someSchema(r)
		x, _ := impl.NewStore(s)
		for range 40 {
			x = tally.txnAsSaid(t, s, x, someTxn(r, s, x), []string{"one", "lock"})
		}
	}
	tally.enough(t, 20)
}

// The same of the plain schema, whose columns have bounds, and whose tables become full.
func TestPromise10TransactionsOfThePlainSchema(t *testing.T) {
	r := rand.New(rand.NewSource(100))
	s := impl.PlainSchema()
	tally := newTally()
	for range 60 {
		x, _ := impl.NewStore(s)
		for range 60 {
			list := someTxn(r, s, x)
			for i := range list {
				for k, one := range list[i].Row {
					if one.Column == "name" && len(one.Names) == 0 {
						list[i].Row[k] = nameSet([]string{"a", "b", "c", "d", "e", "f", "g"}[r.Intn(7)])
					}
				}
			}
			x = tally.txnAsSaid(t, s, x, list, []string{"lock"})
		}
	}
	if tally.done < 300 || tally.gone < 50 || tally.ends[impl.ErrUnique] < 50 {
		t.Errorf("%d are done, %d rows went, the ends are %v", tally.done, tally.gone, tally.ends)
	}
}

// On right stores that no transaction made.
func TestPromise10TransactionsOnSomeStores(t *testing.T) {
	r := rand.New(rand.NewSource(1010))
	tally := newTally()
	right := 0
	for range 6000 {
		s := someSchema(r)
		x := someStore(r, s)
		if !impl.StoreOK(s, x) {
			list := someTxn(r, s, x)
			refusedAs(t, "a store that is not right", s, x, list, nil, impl.ErrBad)
			continue
		}
		right++
		tally.txnAsSaid(t, s, x, someTxn(r, s, x), []string{"lock"})
	}
	if right < 1500 || tally.done < 500 || tally.ends[impl.ErrRef] < 20 || tally.ends[impl.ErrUnique] < 20 {
		t.Errorf("%d stores are right, %d transactions are done, the ends are %v", right, tally.done, tally.ends)
	}
}

// surelyFail are operations that have a code in any schema and store, where other is not owned.
func surelyFail() map[int]impl.Op {
	return map[int]impl.Op{impl.ErrAbort: abortOp(), impl.ErrOwner: assertOp("other"), impl.ErrForm: assertOp("9"), impl.ErrTable: deleteOp("none")}
}

// The theorem of transactions: whatever was done, an operation with a code behind it leaves all as it was, and what the
// operations ahead of it answered stays.
func TestPromise10WhatFailsLeavesAllAsItWas(t *testing.T) {
	r := rand.New(rand.NewSource(10101))
	changed := 0
	for range 200 {
		s := someSchema(r)
		x, _ := impl.NewStore(s)
		for range 20 {
			list := someTxn(r, s, x)
			y, told := txnHolds(t, "without a code behind it", s, x, list, []string{"lock"})
			ahead := told[:min(len(told), len(list))]
			for code, last := range surelyFail() {
				if len(list) == 8 {
					continue
				}
				want := slices.Clone(ahead)
				if lastCode(ahead) == impl.OK {
					want = append(want, coded(code))
				}
				if _, failed := txnHolds(t, "with a code behind it", s, x, append(slices.Clone(list), last), []string{"lock"}); !alike(failed, want) {
					t.Errorf("%s and %s: the results are %s, not %s", brief(list), brief(last), brief(failed), brief(want))
				}
				if !alikeStores(x, y) {
					changed++
				}
			}
			x = y
		}
	}
	if changed < 1000 {
		t.Errorf("only %d transactions would have changed something", changed)
	}
}

// Each operation of a transaction that is done is given up for one with a code, place by place: how many results there
// are then tells where, and the store is as it was.
func TestPromise10ACodeInAnyPlace(t *testing.T) {
	s, x := impl.PlainSchema(), smallStore()
	list := ops(portOp("a"), switchOp("u", "a"), updateOp("note", nil, naming("about", "a")), mutateOp("switch", nil, mut("count", impl.MuAdd, intAtom(9))), deleteOp("switch", nameIs("s")...), insertOp("note", "b"), deleteOp("note", idIs(9)...), waitOp("switch", true, nil, set("count", intAtom(9))))
	y, told := txnHolds(t, "all of them", s, x, list, nil)
	if len(told) != 8 || lastCode(told) != impl.OK || alikeStores(x, y) {
		t.Fatalf("all of them: %s, %s", brief(y), brief(told))
	}
	for code, last := range surelyFail() {
		for place := range list {
			spoilt := slices.Clone(list)
			spoilt[place] = last
			failsAs(t, fmt.Sprintf("a code in place %d", place), s, x, spoilt, append(slices.Clone(told[:place]), coded(code))...)
		}
	}
}

// What nobody holds goes: of any store that fits, by Prune, just those rows and atoms that the document names.
func TestPromise10SomeStoresArePruned(t *testing.T) {
	r := rand.New(rand.NewSource(101))
	var fit, rowsGone, atomsGone, stay int
	codes := map[int]int{}
	for range 4000 {
		s := someSchema(r)
		x := someStore(r, s)
		for _, y := range []impl.Store{x, spoiltStore(r, x), spoiltStore(r, x)} {
			if !fitsSays(s, y) {
				continue
			}
			fit++
			want := prunedSays(s, y)
			prunedTo(t, brief(s)+" "+brief(y), s, y, want)
			commitIs(t, brief(s)+" "+brief(y), s, y, commitSays(s, y))
			commitIs(t, brief(s)+" "+brief(want), s, want, commitSays(s, want))
			codes[commitSays(s, y)]++
			switch {
			case rowsOf(want) < rowsOf(y):
				rowsGone++
			case !alikeStores(want, y):
				atomsGone++
			default:
				stay++
			}
		}
	}
	if fit < 5000 || rowsGone < 500 || atomsGone < 100 || stay < 500 || codes[impl.OK] < 500 || codes[impl.ErrRef] < 500 || codes[impl.ErrUnique] < 500 {
		t.Errorf("%d fit, of %d rows went, of %d atoms, %d stay; codes %v", fit, rowsGone, atomsGone, stay, codes)
	}
}

// A store that fits is right just when it is as Prune leaves it, CommitCode has nothing to say, and no Id is in two tables.
func TestPromise6PrunedAndCommittedIsRight(t *testing.T) {
	r := rand.New(rand.NewSource(606))
	right := 0
	for range 4000 {
		s := someSchema(r)
		x := someStore(r, s)
		pruned, _ := impl.Prune(s, x)
		code, _ := impl.CommitCode(s, pruned)
		if impl.StoreOK(s, pruned) != (code == impl.OK) {
			t.Errorf("pruned %s has the code %d, StoreOK is %v", brief(pruned), code, code != impl.OK)
		}
		own, _ := impl.CommitCode(s, x)
		if impl.StoreOK(s, x) != (own == impl.OK && alikeStores(pruned, x)) {
			t.Errorf("%s has the code %d, pruned it is %s, StoreOK is %v", brief(x), own, brief(pruned), impl.StoreOK(s, x))
		}
		if code == impl.OK {
			right++
		}
	}
	if right < 1000 || right > 3900 {
		t.Errorf("%d stores are right when they are pruned", right)
	}
}

// handedTxn is what the calls of transactions are given.
type handedTxn struct {
	Schema impl.Schema
	Store  impl.Store
	Ops    []impl.Op
	Owned  []string
	Next   int
	Told   []impl.Result
}

// txnOut is what Transact answers.
type txnOut struct {
	Store impl.Store
	Told  []impl.Result
	Code  int
}

func transacted(h handedTxn) txnOut {
	y, told, code := impl.Transact(h.Schema, h.Store, h.Ops, h.Owned)
	return txnOut{y, told, code}
}

// txnAnswers are those of all calls of transactions; empty lists and nil are told alike.
func txnAnswers(h handedTxn) []any {
	numbers, code := impl.InsertIds(h.Ops, h.Next)
	pruned, prunedCode := impl.Prune(h.Schema, h.Store)
	first, firstCode := impl.CommitCode(h.Schema, h.Store)
	failed, failedCode := impl.Failed(h.Told)
	bare := again(reflect.ValueOf(transacted(h)), true, 0).Interface()
	return []any{append([]int{}, numbers...), code, copyStore(pruned), prunedCode, first, firstCode, failed, failedCode, bare}
}

func handedTxnAgain(h handedTxn, bare bool, room int) handedTxn {
	return again(reflect.ValueOf(h), bare, room).Interface().(handedTxn)
}

// allHandedTxns are transactions that are done and that fail, in an operation and at the end, and wrong arguments.
func allHandedTxns() []handedTxn {
	s := impl.PlainSchema()
	every := ops(portOp("a"), switchOp("u", "a"), updateOp("switch", nil, set("ports", ids(2, 7)...)), updateOp("note", nil, naming("about", "a"), nameSet("m")), mutateOp("port", nil, mut("tag", impl.MuInsert, intAtom(4))), selectOp("switch", nil), selectOp("port", nil, "name", "name", "_uuid", "tag"), deleteOp("note", idIs(9)...))
	lists := [][]impl.Op{
		nil, {}, every, every[:7], every[1:], append(slices.Clone(every[:7]), abortOp()), every[2:4], every[5:7], {selectOp("switch", nil), selectOp("switch", nil), selectOp("switch", nameIs("x"))}, {deleteOp("switch")}, {deleteOp("port")}, {insertOp("note", "", set("about", ids(2, 7)...)), insertOp("note", "", set("about", ids(2, 7)...))},
		{waitOp("switch", true, nil, set("ports", ids(2)...)), insertOp("note", "")}, {waitOp("switch", false, nil, set("ports", ids(2)...)), assertOp("lock"), insertOp("note", "")}, {assertOp("none")}, {updateOp("switch", nil, nameSet("u"))}, {insertOp("switch", "", naming("ports", "x"))}, {mutateOp("switch", nil, mut("count", impl.MuAdd, intAtom(1001)))}, slices.Repeat(ops(insertOp("note", "")), 8), slices.Repeat(ops(insertOp("note", "")), 9), {{}}, {commitOp(), {Kind: 11}},
	}
	stores := append(someStores(), withNext(smallStore(), 999993), withNext(smallStore(), 1000000), fullNotes(12))
	told := [][]impl.Result{nil, {}, {coded(3)}, {counted(1), coded(3)}, {coded(20)}, {{Columns: []string{"a"}, Rows: rows(row(1, ints(0, 3)))}, {}}}
	var all []handedTxn
	for i, x := range stores {
		for k, list := range lists {
			if !impl.StoreOK(s, x) && k > 3 {
				continue
			}
			all = append(all, handedTxn{s, x, list, [][]string{nil, {}, {"lock"}, {"a", "lock", "b"}}[(i+k)%4], []int{1, 0, 999999, 1000000}[(i+k)%4], told[(i+k)%len(told)]})
		}
	}
	h := heldSchema()
	ring := store(20, rows(row(5, ids(1), nil, ids(1, 2, 9), nil)), nil, rows(row(1, ids(2), ids(2)), row(2, ids(1), nil), row(3, nil, ids(1)), row(4, ids(3), nil)))
	return append(all, handedTxn{Schema: h, Store: ring, Ops: ops(deleteOp("a")), Next: 5}, handedTxn{Schema: h, Store: store(9, nil, nil, nil), Ops: ops(insertOp("h", "me", naming("own", "me"), naming("weak", "me"))), Next: 5}, handedTxn{})
}

func TestPromise1TransactionsAlikeAnswers(t *testing.T) {
	for _, h := range allHandedTxns() {
		first := txnAnswers(h)
		impl.Transact(impl.PlainSchema(), smallStore(), ops(insertOp("note", "a"), deleteOp("switch"), abortOp()), []string{"lock"})
		impl.Transact(impl.PlainSchema(), smallStore(), ops(portOp("a"), switchOp("", "a")), nil)
		impl.Prune(heldSchema(), store(9, nil, nil, held([]int{1})))
		impl.InsertIds(ops(insertOp("note", "")), 77)
		if second := txnAnswers(handedTxnAgain(h, false, 0)); !reflect.DeepEqual(first, second) {
			t.Errorf("%s: %s, then %s", brief(h), brief(first), brief(second))
		}
		if bare := txnAnswers(handedTxnAgain(h, true, 0)); !reflect.DeepEqual(first, bare) {
			t.Errorf("%s: %s, with nil for empty lists %s", brief(h), brief(first), brief(bare))
		}
	}
}

func TestPromise1TransactionsStay(t *testing.T) {
	for _, h := range allHandedTxns() {
		roomy := handedTxnAgain(h, false, 2)
		before := wholeOf(reflect.ValueOf(roomy))
		answers := txnAnswers(roomy)
		if after := wholeOf(reflect.ValueOf(roomy)); after != before {
			t.Fatalf("%.500s was changed: %.500s", before, after)
		}
		if tight := txnAnswers(h); !reflect.DeepEqual(answers, tight) {
			t.Errorf("%s: room changes an answer", brief(h))
		}
	}
}

// txnIsNew tells that the answers share memory with nothing that was given, and that no two lists of one share any.
func txnIsNew(t *testing.T, h handedTxn) {
	t.Helper()
	out := transacted(h)
	isNew(t, fmt.Sprintf("Transact of %s with code %d", brief(h.Ops), out.Code), out, h)
	again := transacted(h)
	isNew(t, "Transact once more", again, out)
	pruned, _ := impl.Prune(h.Schema, h.Store)
	isNew(t, "Prune", pruned, h)
	numbers, _ := impl.InsertIds(h.Ops, h.Next)
	isNew(t, "InsertIds", numbers, h)
}

func TestPromise1TransactionsAreNew(t *testing.T) {
	codes := map[int]int{}
	for _, h := range allHandedTxns() {
		txnIsNew(t, h)
		txnIsNew(t, handedTxnAgain(h, false, 2))
		codes[transacted(h).Code]++
	}
	if codes[impl.OK] < 20 || codes[impl.ErrFull] < 5 || codes[impl.ErrBad] < 5 || codes[impl.ErrMany] < 2 {
		t.Errorf("codes %v", codes)
	}
	r := rand.New(rand.NewSource(1))
	for range 100 {
		s := someSchema(r)
		x, _ := impl.NewStore(s)
		for range 10 {
			h := handedTxn{Schema: s, Store: x, Ops: someTxn(r, s, x), Owned: []string{"lock"}, Next: x.Next}
			txnIsNew(t, h)
			x = transacted(h).Store
		}
	}
}

// All cells of a store may be one list, several operations may have one Value, one Where, one list of Columns, and a
// Value may be a cell of the store.
func TestPromise1TransactionsThatShareMemory(t *testing.T) {
	column := func(name string) impl.Column { return called(refColumn(8, "t", false), name) }
	s := schema(impl.Table{Name: "t", Root: true, Columns: []impl.Column{column("a"), column("b"), column("c")}})
	cell := withRoom(ids(1, 2, 3))
	cells := [][]impl.Atom{cell, cell, cell[:2]}
	x := store(9, rows(row(1, cells...), row(2, cells...), row(3, cells...)))
	same := sets(impl.Set{Column: "a", Value: cell}, impl.Set{Column: "b", Value: cell[1:]}, impl.Set{Column: "c", Value: cell})
	names := []string{"a", "b", "_uuid"}
	where := conds(impl.Cond{Column: "a", Func: impl.CoIncludes, Value: cell[:1]})
	before := slices.Clone(cell[:cap(cell)])
	for _, list := range [][]impl.Op{
		nil, {insertOp("t", "", same...), insertOp("t", "", same...)}, {updateOp("t", where, same...), updateOp("t", where, same[:1]...), selectOp("t", where, names...), selectOp("t", nil, names...), selectOp("t", nil), selectOp("t", nil)},
		{mutateOp("t", where, impl.Mut{Column: "b", Func: impl.MuInsert, Value: cell}, impl.Mut{Column: "c", Func: impl.MuDelete, Value: cell[:1]})}, {deleteOp("t", idIs(2)...), insertOp("t", "", same...)}, {deleteOp("t", idIs(1)...), abortOp()}, {waitOp("t", true, where, same[:1]...)},
	} {
		h := handedTxn{Schema: s, Store: x, Ops: list, Next: 3}
		want, wantTold := txnSays(s, copyStore(x), list, nil)
		txnIsNew(t, h)
		y, told := txnHolds(t, "shared memory", s, x, list, nil)
		if !alikeStores(y, want) || !alike(told, wantTold) {
			t.Errorf("shared memory: Transact of %s is %s, %s, not %s, %s", brief(list), brief(y), brief(told), brief(want), brief(wantTold))
		}
		if !slices.Equal(cell[:cap(cell)], before) || !slices.Equal(names, []string{"a", "b", "_uuid"}) {
			t.Fatalf("%s was changed", brief(cell))
		}
	}
}

// What is written into an answer changes neither what was given nor the next answer.
func TestPromise1WhoWritesIntoATransaction(t *testing.T) {
	s, x := impl.PlainSchema(), smallStore()
	list := ops(insertOp("note", "", set("about", ids(2, 7)...)), selectOp("switch", nil), selectOp("switch", nil, "name"), updateOp("port", nil, set("tag", intAtom(5))))
	first := transacted(handedTxn{Schema: s, Store: x, Ops: list})
	want := transacted(handedTxn{Schema: s, Store: copyStore(x), Ops: list})
	for _, told := range first.Told {
		clear(told.Columns)
		for _, r := range told.Rows {
			for _, d := range r.Cells {
				spoilAtoms(d)
			}
			clear(r.Cells)
		}
	}
	for _, table := range first.Store.Tables {
		for _, r := range table {
			for _, d := range r.Cells {
				spoilAtoms(d)
			}
		}
		clear(table)
	}
	if second := transacted(handedTxn{Schema: s, Store: x, Ops: list}); !alike(second, want) || !alikeStores(x, smallStore()) {
		t.Errorf("a spoilt answer changes the next one: %s, not %s", brief(second), brief(want))
	}
}

func TestPromise1TransactionsAtTheSameTime(t *testing.T) {
	given := allHandedTxns()
	var all sync.WaitGroup
	for range 8 {
		all.Go(func() {
			for _, h := range given {
				first := txnAnswers(h)
				if second := txnAnswers(h); !reflect.DeepEqual(first, second) {
					t.Errorf("%s: %s, then %s", brief(h), brief(first), brief(second))
				}
			}
		})
	}
	all.Wait()
}
