package tests

import (
	"math/rand"
	"reflect"
	"slices"
	"strings"
	"sync"
	"testing"

	"loop.example/g00524/impl"
)

// sortedOnce is what DatumOf must make of right atoms of one kind: by kind, number and text, each once.
func sortedOnce(list []impl.Atom) []impl.Atom {
	var once []impl.Atom
	seen := map[impl.Atom]bool{}
	for _, a := range list {
		if !seen[a] {
			once = append(once, a)
		}
		seen[a] = true
	}
	slices.SortFunc(once, func(a, b impl.Atom) int {
		if a.N != b.N {
			if a.N < b.N {
				return -1
			}
			return 1
		}
		return strings.Compare(a.T, b.T)
	})
	return once
}

// putInOrder tells that DatumOf makes a list what it must be.
func putInOrder(t *testing.T, list []impl.Atom) {
	t.Helper()
	want, wantCode := sortedOnce(list), impl.OK
	if len(want) > impl.MaxSet {
		want, wantCode = nil, impl.ErrMany
	}
	d, code := impl.DatumOf(list)
	if !slices.Equal(d, want) || code != wantCode {
		t.Errorf("DatumOf(%.200v) is %.200v, %d, not %.200v, %d", list, d, code, want, wantCode)
	}
	if !impl.DatumOK(d) {
		t.Errorf("DatumOK of what DatumOf(%.200v) made is false: %.200v", list, d)
	}
	again, code := impl.DatumOf(d)
	setIs(t, "DatumOf of a set", again, code, d, impl.OK)
}

// fewAtoms answers, of each kind, the few atoms that lists are made of, not in their order.
func fewAtoms() [][]impl.Atom {
	return [][]impl.Atom{
		{intAtom(9), intAtom(-1), intAtom(10), intAtom(0)},
		{textAtom("b"), textAtom(""), textAtom("ab"), textAtom("a")},
		{boolAtom(1), boolAtom(0)},
		{idAtom(1000000), idAtom(1), idAtom(10), idAtom(9)},
	}
}

// eachList calls do with all lists of count atoms of some.
func eachList(some []impl.Atom, count int, do func([]impl.Atom)) {
	list := make([]impl.Atom, count)
	var fill func(place int)
	fill = func(place int) {
		if place == count {
			do(list)
			return
		}
		for _, a := range some {
			list[place] = a
			fill(place + 1)
		}
	}
	fill(0)
}

// eachOrder calls do with a list in all orders that it can come in.
func eachOrder(list []impl.Atom, do func([]impl.Atom)) {
	var swap func(place int)
	swap = func(place int) {
		if place == len(list) {
			do(list)
			return
		}
		for i := place; i < len(list); i++ {
			list[place], list[i] = list[i], list[place]
			swap(place + 1)
			list[place], list[i] = list[i], list[place]
		}
	}
	swap(0)
}

func TestPromise4AllListsOfFewAtoms(t *testing.T) {
	for _, some := range fewAtoms() {
		for count := range 7 {
			eachList(some, count, func(list []impl.Atom) { putInOrder(t, list) })
		}
	}
}

func TestPromise4AllOrders(t *testing.T) {
	texts := atoms(textAtom(""), textAtom(" "), textAtom("10"), textAtom("9"), textAtom("a"), textAtom("aa"), textAtom("b"), textAtom("b "))
	eachOrder(texts, func(list []impl.Atom) { putInOrder(t, list) })
	eachOrder(ints(-3, 4), func(list []impl.Atom) { putInOrder(t, list) })
}

// Atoms that come twice and more often do not count among the MaxSet.
func TestPromise4AtomsThatComeOften(t *testing.T) {
	for _, some := range append(fewAtoms(), ints(-4, 4), ints(-4, 5)) {
		for times := 1; times <= 12; times++ {
			each := make([]impl.Atom, 0, times*len(some))
			for _, a := range some {
				each = append(each, slices.Repeat(atoms(a), times)...)
			}
			putInOrder(t, each)
			slices.Reverse(each)
			putInOrder(t, each)
			putInOrder(t, slices.Repeat(some, times))
		}
	}
	for place := range 9 {
		for of := range 8 {
			putInOrder(t, slices.Insert(ints(0, 8), place, intAtom(of)))
		}
		putInOrder(t, slices.Insert(ints(0, 8), place, intAtom(100)))
	}
}

// someAtom answers an atom of a kind, one of so many.
func someAtom(r *rand.Rand, kind, many int) impl.Atom {
	n := r.Intn(many)
	switch kind {
	case impl.AtInt:
		return intAtom((n - many/2) * 7)
	case impl.AtText:
		return textAtom(strings.Repeat("a", n/3) + strings.Repeat("b", n%3))
	case impl.AtBool:
		return boolAtom(n % 2)
	}
	return idAtom(1 + n*n)
}

func TestPromise4SomeLists(t *testing.T) {
	r := rand.New(rand.NewSource(6))
	for range 20000 {
		kind, many := 1+r.Intn(4), 1+r.Intn(12)
		list := make([]impl.Atom, r.Intn(40))
		for i := range list {
			list[i] = someAtom(r, kind, many)
		}
		putInOrder(t, list)
	}
}

// subset answers the atoms of some whose bits are in a number.
func subset(some []impl.Atom, bits int) []impl.Atom {
	var d []impl.Atom
	for i, a := range some {
		if bits>>i&1 == 1 {
			d = append(d, a)
		}
	}
	return d
}

// All sets of nine atoms that are sets, two by two: what is joined and what is left is in order, each once.
func TestPromise4JoinedAndLeftAtoms(t *testing.T) {
	for _, some := range [][]impl.Atom{
		ints(-4, 5),
		{textAtom(""), textAtom(" "), textAtom("a"), textAtom("aa"), textAtom("ab"), textAtom("b"), textAtom("ba"), textAtom("c"), textAtom("~")},
	} {
		for x := range 1<<9 - 1 {
			for y := range 1<<9 - 1 {
				a, b := subset(some, x), subset(some, y)
				joined, code := impl.DatumJoin(a, b)
				if x|y == 1<<9-1 {
					setIs(t, "DatumJoin", joined, code, nil, impl.ErrMany)
				} else {
					setIs(t, "DatumJoin", joined, code, subset(some, x|y), impl.OK)
				}
				less, code := impl.DatumLess(a, b)
				setIs(t, "DatumLess", less, code, subset(some, x&^y), impl.OK)
			}
		}
	}
}

// What is joined is there, what is taken away is not, and what was neither stays.
func TestPromise4JoinedAtomsAreThere(t *testing.T) {
	for _, a := range rightSets() {
		for _, b := range rightSets() {
			joined, code := impl.DatumJoin(a, b)
			less, lessCode := impl.DatumLess(a, b)
			for _, x := range slices.Concat(a, b) {
				has, hasCode := impl.DatumHas(joined, x)
				if code == impl.OK && (!has || hasCode != impl.OK) {
					t.Errorf("DatumJoin(%.60v, %.60v) has not %.60v", a, b, x)
				}
				has, hasCode = impl.DatumHas(less, x)
				if lessCode == impl.OK && (has == slices.Contains(b, x) || hasCode != impl.OK) {
					t.Errorf("DatumHas(DatumLess(%.60v, %.60v), %.60v) is %v, %d", a, b, x, has, hasCode)
				}
			}
			if !impl.DatumOK(joined) || !impl.DatumOK(less) {
				t.Errorf("%.60v and %.60v make what is no set: %.60v, %.60v", a, b, joined, less)
			}
		}
	}
}

// atomAnswers are those of all calls that take atoms; empty lists and nil are told alike.
func atomAnswers(a, b []impl.Atom, x, y impl.Atom) []any {
	order, orderCode := impl.OrderAtoms(x, y)
	made, madeCode := impl.DatumOf(a)
	has, hasCode := impl.DatumHas(a, x)
	joined, joinCode := impl.DatumJoin(a, b)
	less, lessCode := impl.DatumLess(a, b)
	return []any{
		impl.AtomOK(x), order, orderCode, impl.DatumOK(a),
		append(atoms(), made...), madeCode, has, hasCode,
		append(atoms(), joined...), joinCode, append(atoms(), less...), lessCode,
	}
}

// someLists are sets, lists that make sets, and lists that are wrong.
func someLists() [][]impl.Atom {
	lists := append(rightSets(), fewAtoms()...)
	for _, wrong := range wrongSets() {
		if len(wrong) < 20 {
			lists = append(lists, wrong)
		}
	}
	return lists
}

func TestPromise1AtomsAlikeAnswers(t *testing.T) {
	list := risingAtoms()
	for i, a := range someLists() {
		for k, b := range someLists() {
			x, y := list[i%len(list)], list[k%len(list)]
			first := atomAnswers(a, b, x, y)
			impl.DatumOf(ints(0, 9))
			impl.DatumJoin(atoms(intAtom(7)), atoms(intAtom(3)))
			impl.OrderAtoms(impl.Atom{}, x)
			second := atomAnswers(slices.Clone(a), slices.Clone(b), x, y)
			if !reflect.DeepEqual(first, second) {
				t.Errorf("%.60v and %.60v: %.200v, then %.200v", a, b, first, second)
			}
		}
	}
}

func TestPromise1EmptySetsAreNil(t *testing.T) {
	empty, one := []impl.Atom{}, atoms(intAtom(1))
	for _, a := range risingAtoms() {
		if !reflect.DeepEqual(atomAnswers(empty, one, a, a), atomAnswers(nil, one, a, a)) || !reflect.DeepEqual(atomAnswers(one, empty, a, a), atomAnswers(one, nil, a, a)) {
			t.Errorf("an empty set is not as nil beside %.60v", a)
		}
	}
}

// withRoom answers a list with room behind its end, where something stands.
func withRoom(list []impl.Atom) []impl.Atom {
	roomy := append(append(atoms(), list...), intAtom(-77), textAtom("behind"), impl.Atom{Kind: 9}, idAtom(77))
	return roomy[:len(list)]
}

func TestPromise1AtomsStay(t *testing.T) {
	for _, a := range someLists() {
		for _, b := range someLists() {
			x, y := withRoom(a), withRoom(b)
			beforeX, beforeY := slices.Clone(x[:cap(x)]), slices.Clone(y[:cap(y)])
			roomy := atomAnswers(x, y, intAtom(1), intAtom(2))
			if !slices.Equal(x[:cap(x)], beforeX) || !slices.Equal(y[:cap(y)], beforeY) {
				t.Fatalf("%.60v and %.60v were changed", a, b)
			}
			if tight := atomAnswers(slices.Clip(a), slices.Clip(b), intAtom(1), intAtom(2)); !reflect.DeepEqual(roomy, tight) {
				t.Errorf("%.60v and %.60v: room changes %.200v to %.200v", a, b, tight, roomy)
			}
		}
	}
}

// spoilAtoms writes into an answer, behind its end too.
func spoilAtoms(d []impl.Atom) {
	d = d[:cap(d)]
	for i := range d {
		d[i] = textAtom("spoilt")
	}
}

func TestPromise1SetsAreNew(t *testing.T) {
	for _, a := range rightSets() {
		for _, b := range append(rightSets(), a) {
			x, y := withRoom(a), withRoom(b)
			beforeX, beforeY := slices.Clone(x[:cap(x)]), slices.Clone(y[:cap(y)])
			first := atomAnswers(x, y, intAtom(1), intAtom(2))
			made, _ := impl.DatumOf(x)
			joined, _ := impl.DatumJoin(x, y)
			less, _ := impl.DatumLess(x, y)
			spoilAtoms(made)
			spoilAtoms(joined)
			spoilAtoms(less)
			if !slices.Equal(x[:cap(x)], beforeX) || !slices.Equal(y[:cap(y)], beforeY) {
				t.Fatalf("an answer of %.60v and %.60v shares their memory", a, b)
			}
			if second := atomAnswers(x, y, intAtom(1), intAtom(2)); !reflect.DeepEqual(first, second) {
				t.Errorf("%.60v and %.60v: a spoilt answer changes the next one", a, b)
			}
		}
	}
}

// A set that is handed in twice, or within another list, is read alone.
func TestPromise1SetsThatShareMemory(t *testing.T) {
	all := ints(0, 8)
	for i := range len(all) + 1 {
		for k := range len(all) + 1 {
			joined, code := impl.DatumJoin(all[:i], all[k:])
			want := append(ints(0, i), ints(max(i, k), 8)...)
			setIs(t, "DatumJoin of pieces", joined, code, want, impl.OK)
			less, code := impl.DatumLess(all[:i], all[k:])
			setIs(t, "DatumLess of pieces", less, code, ints(0, min(i, k)), impl.OK)
		}
	}
	setIs(t, "what was cut", all, impl.OK, ints(0, 8), impl.OK)
}

func TestPromise1AtomsAtTheSameTime(t *testing.T) {
	lists := someLists()
	var all sync.WaitGroup
	for range 8 {
		all.Go(func() {
			for _, a := range lists {
				first := atomAnswers(a, lists[0], intAtom(1), intAtom(2))
				if second := atomAnswers(a, lists[0], intAtom(1), intAtom(2)); !reflect.DeepEqual(first, second) {
					t.Errorf("%.60v: %.200v, then %.200v", a, first, second)
				}
			}
		})
	}
	all.Wait()
}
