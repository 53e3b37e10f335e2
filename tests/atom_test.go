package tests

import (
	"math"
	"slices"
	"strings"
	"testing"

	"loop.example/g00524/impl"
)

func intAtom(n int) impl.Atom { return impl.Atom{Kind: impl.AtInt, N: n} }

func textAtom(s string) impl.Atom { return impl.Atom{Kind: impl.AtText, T: s} }

func boolAtom(n int) impl.Atom { return impl.Atom{Kind: impl.AtBool, N: n} }

func idAtom(n int) impl.Atom { return impl.Atom{Kind: impl.AtUuid, N: n} }

func atoms(list ...impl.Atom) []impl.Atom { return list }

// ints answers atoms of the numbers from begin on, below end.
func ints(begin, end int) []impl.Atom {
	var list []impl.Atom
	for n := begin; n < end; n++ {
		list = append(list, intAtom(n))
	}
	return list
}

// risingAtoms are right atoms, each one ahead of those behind it.
func risingAtoms() []impl.Atom {
	most := strings.Repeat("~", 200)
	return atoms(
		intAtom(-1000000000), intAtom(-999999999), intAtom(-10), intAtom(-9), intAtom(-1), intAtom(0), intAtom(1), intAtom(9), intAtom(10), intAtom(1000000), intAtom(1000001), intAtom(1000000000),
		textAtom(""), textAtom(" "), textAtom("  "), textAtom("!"), textAtom(`"`), textAtom("10"), textAtom("9"), textAtom("A"), textAtom("Z"), textAtom(`\`), textAtom("a"), textAtom("aa"), textAtom("ab"), textAtom("b"), textAtom("~"), textAtom(most[:199]), textAtom(most),
		boolAtom(0), boolAtom(1),
		idAtom(1), idAtom(2), idAtom(10), idAtom(999999), idAtom(1000000),
	)
}

// wrongAtoms are atoms that are not right.
func wrongAtoms() map[string]impl.Atom {
	return map[string]impl.Atom{
		"nothing":                       {},
		"kind -1":                       {Kind: -1, N: 1},
		"kind 0 with a number":          {N: 1},
		"kind 0 with a text":            {T: "a"},
		"kind 5":                        {Kind: 5},
		"kind 5 with a number":          {Kind: 5, N: 1},
		"the least kind":                {Kind: math.MinInt},
		"the greatest kind":             {Kind: math.MaxInt, N: 1},
		"a number below":                intAtom(-1000000001),
		"a number above":                intAtom(1000000001),
		"the least number":              intAtom(math.MinInt),
		"the greatest number":           intAtom(math.MaxInt),
		"a number with a text":          {Kind: impl.AtInt, N: 1, T: "a"},
		"nought with a text":            {Kind: impl.AtInt, T: "0"},
		"a text with 1":                 {Kind: impl.AtText, N: 1, T: "a"},
		"a text with -1":                {Kind: impl.AtText, N: -1, T: "a"},
		"an empty text with a number":   {Kind: impl.AtText, N: math.MinInt},
		"a text of 201 bytes":           textAtom(strings.Repeat("a", 201)),
		"a text of MaxText bytes":       textAtom(strings.Repeat("a", impl.MaxText)),
		"a text of more than MaxText":   textAtom(strings.Repeat("a", impl.MaxText+1)),
		"a text with byte 31":           textAtom("\x1f"),
		"a text with byte 127":          textAtom("a\x7f"),
		"a text with byte 10":           textAtom("a\nb"),
		"a text of no ASCII":            textAtom("é"),
		"a bool of -1":                  boolAtom(-1),
		"a bool of 2":                   boolAtom(2),
		"a bool of the greatest number": boolAtom(math.MaxInt),
		"a bool of the least number":    boolAtom(math.MinInt),
		"true with a text":              {Kind: impl.AtBool, N: 1, T: "true"},
		"false with a text":             {Kind: impl.AtBool, T: " "},
		"row 0":                         idAtom(0),
		"row -1":                        idAtom(-1),
		"row 1000001":                   idAtom(1000001),
		"the greatest row":              idAtom(math.MaxInt),
		"the least row":                 idAtom(math.MinInt),
		"row 1 with a text":             {Kind: impl.AtUuid, N: 1, T: "a"},
		"row 0 with a text":             {Kind: impl.AtUuid, T: "1"},
	}
}

// setIs tells that a call answered a set and a code as it should.
func setIs(t *testing.T, call string, got []impl.Atom, code int, want []impl.Atom, wantCode int) {
	t.Helper()
	if !slices.Equal(got, want) || code != wantCode {
		t.Errorf("%s is %.200v, %d, not %.200v, %d", call, got, code, want, wantCode)
	}
}

// madeAs tells what DatumOf makes of a list.
func madeAs(t *testing.T, list, want []impl.Atom, wantCode int) {
	t.Helper()
	got, code := impl.DatumOf(list)
	setIs(t, "DatumOf", got, code, want, wantCode)
}

// pairIs tells what DatumJoin and DatumLess answer with a code.
func pairIs(t *testing.T, a, b []impl.Atom, wantCode int) {
	t.Helper()
	joined, code := impl.DatumJoin(a, b)
	setIs(t, "DatumJoin", joined, code, nil, wantCode)
	less, code := impl.DatumLess(a, b)
	setIs(t, "DatumLess", less, code, nil, wantCode)
}

func TestRightAtoms(t *testing.T) {
	for _, a := range risingAtoms() {
		if !impl.AtomOK(a) {
			t.Errorf("AtomOK(%.60v) is false", a)
		}
		if !impl.DatumOK(atoms(a)) {
			t.Errorf("DatumOK of %.60v alone is false", a)
		}
		madeAs(t, atoms(a), atoms(a), impl.OK)
	}
}

func TestWrongAtoms(t *testing.T) {
	for name, wrong := range wrongAtoms() {
		t.Run(name, func(t *testing.T) {
			if impl.AtomOK(wrong) {
				t.Error("AtomOK is true")
			}
			for _, a := range append(risingAtoms(), wrong, impl.Atom{}) {
				if n, code := impl.OrderAtoms(wrong, a); n != 0 || code != impl.ErrBad {
					t.Errorf("OrderAtoms of it and %.60v is %d, %d", a, n, code)
				}
				if n, code := impl.OrderAtoms(a, wrong); n != 0 || code != impl.ErrBad {
					t.Errorf("OrderAtoms of %.60v and it is %d, %d", a, n, code)
				}
				madeAs(t, atoms(a, wrong), nil, impl.ErrBad)
				madeAs(t, atoms(wrong, a), nil, impl.ErrBad)
				if impl.DatumOK(atoms(a, wrong)) || impl.DatumOK(atoms(wrong, a)) {
					t.Errorf("DatumOK of it and %.60v is true", a)
				}
			}
			if impl.DatumOK(atoms(wrong)) {
				t.Error("DatumOK is true")
			}
			for _, d := range [][]impl.Atom{nil, ints(1, 9), atoms(wrong), atoms(boolAtom(0), boolAtom(1))} {
				if has, code := impl.DatumHas(d, wrong); has || code != impl.ErrBad {
					t.Errorf("DatumHas(%.60v) is %v, %d", d, has, code)
				}
			}
		})
	}
}

func TestNumbersOfAtomsAtTheirEdges(t *testing.T) {
	for _, edge := range []struct{ kind, least, most int }{
		{impl.AtInt, -1000000000, 1000000000},
		{impl.AtText, 0, 0},
		{impl.AtBool, 0, 1},
		{impl.AtUuid, 1, 1000000},
	} {
		for _, n := range []int{edge.least, edge.most, edge.least - 1, edge.most + 1, math.MinInt, math.MaxInt} {
			want := n >= edge.least && n <= edge.most
			if a := (impl.Atom{Kind: edge.kind, N: n}); impl.AtomOK(a) != want {
				t.Errorf("AtomOK(%v) is %v", a, !want)
			}
			for _, s := range []string{" ", "a", "\n"} {
				want := want && edge.kind == impl.AtText && s != "\n"
				if a := (impl.Atom{Kind: edge.kind, N: n, T: s}); impl.AtomOK(a) != want {
					t.Errorf("AtomOK(%v) is %v", a, !want)
				}
			}
		}
	}
}

func TestTextsOfAtomsByteByByte(t *testing.T) {
	for b := range 256 {
		one := string([]byte{byte(b)})
		want := b >= 32 && b <= 126
		for _, s := range []string{one, "a" + one, one + "a", strings.Repeat(one, 200), strings.Repeat("a", 199) + one} {
			if impl.AtomOK(textAtom(s)) != want {
				t.Errorf("AtomOK of byte %d in a text of %d is %v", b, len(s), !want)
			}
			if impl.AtomOK(textAtom(s + strings.Repeat("a", 201-len(s)))) {
				t.Errorf("AtomOK of byte %d in a text of 201 is true", b)
			}
		}
	}
}

func TestOrderOfAtoms(t *testing.T) {
	list := risingAtoms()
	for i, a := range list {
		for k, b := range list {
			want := 0
			if i < k {
				want = -1
			} else if i > k {
				want = 1
			}
			if n, code := impl.OrderAtoms(a, b); n != want || code != impl.OK {
				t.Errorf("OrderAtoms(%.60v, %.60v) is %d, %d, not %d", a, b, n, code, want)
			}
		}
	}
}

func TestTextsAreOrderedByTheirBytes(t *testing.T) {
	for a := 32; a <= 126; a++ {
		for b := 32; b <= 126; b++ {
			x, y := string([]byte{'m', byte(a)}), string([]byte{'m', byte(b), 'm'})
			want := strings.Compare(x, y)
			if n, code := impl.OrderAtoms(textAtom(x), textAtom(y)); n != want || code != impl.OK {
				t.Errorf("OrderAtoms of %q and %q is %d, %d", x, y, n, code)
			}
		}
	}
}

// rightSets are sets, those with the most atoms of each kind among them.
func rightSets() [][]impl.Atom {
	most := strings.Repeat("a", 200)
	return [][]impl.Atom{
		nil,
		{},
		{intAtom(0)},
		{textAtom("")},
		{boolAtom(0)},
		{boolAtom(1)},
		{boolAtom(0), boolAtom(1)},
		{idAtom(1)},
		{intAtom(-1000000000), intAtom(1000000000)},
		{idAtom(1), idAtom(1000000)},
		ints(-4, 4),
		{textAtom(""), textAtom(" "), textAtom("10"), textAtom("9"), textAtom("a"), textAtom(most[:199]), textAtom(most), textAtom("b")},
		{idAtom(1), idAtom(2), idAtom(3), idAtom(4), idAtom(5), idAtom(6), idAtom(7), idAtom(8)},
	}
}

// wrongSets are lists that are no sets.
func wrongSets() map[string][]impl.Atom {
	wrong := map[string][]impl.Atom{
		"numbers that fall":          {intAtom(2), intAtom(1)},
		"the last one falls":         append(ints(1, 8), intAtom(0)),
		"the last two fall":          append(ints(1, 7), intAtom(9), intAtom(8)),
		"a number twice":             {intAtom(1), intAtom(1)},
		"the last number twice":      append(ints(1, 8), intAtom(7)),
		"a number twice, apart":      {intAtom(1), intAtom(2), intAtom(1)},
		"texts that fall":            {textAtom("b"), textAtom("a")},
		"a text ahead of its begin":  {textAtom("aa"), textAtom("a")},
		"a text twice":               {textAtom(""), textAtom("")},
		"bools that fall":            {boolAtom(1), boolAtom(0)},
		"a bool twice":               {boolAtom(0), boolAtom(0)},
		"rows that fall":             {idAtom(2), idAtom(1)},
		"a row twice":                {idAtom(3), idAtom(3)},
		"two kinds that rise":        {intAtom(1), textAtom("a")},
		"two kinds that fall":        {textAtom("a"), intAtom(1)},
		"two kinds of one number":    {intAtom(1), boolAtom(1)},
		"another kind last":          append(ints(1, 8), idAtom(8)),
		"all kinds":                  {intAtom(1), textAtom(""), boolAtom(1), idAtom(1)},
		"nine numbers":               ints(1, 10),
		"nine times a number":        slices.Repeat(atoms(intAtom(1)), 9),
		"MaxList numbers":            ints(0, impl.MaxList),
		"MaxList times a number":     slices.Repeat(atoms(intAtom(1)), impl.MaxList),
		"MaxList times nothing":      make([]impl.Atom, impl.MaxList),
		"a wrong one behind seven":   append(ints(1, 8), intAtom(1000000001)),
		"a wrong one ahead of seven": append(atoms(intAtom(-1000000001)), ints(1, 8)...),
	}
	for name, a := range wrongAtoms() {
		wrong[name] = atoms(a)
	}
	return wrong
}

func TestRightSets(t *testing.T) {
	for _, d := range rightSets() {
		if !impl.DatumOK(d) {
			t.Errorf("DatumOK(%.60v) is false", d)
		}
		madeAs(t, d, d, impl.OK)
		joined, code := impl.DatumJoin(d, d)
		setIs(t, "DatumJoin of a set and itself", joined, code, d, impl.OK)
		less, code := impl.DatumLess(d, d)
		setIs(t, "DatumLess of a set and itself", less, code, nil, impl.OK)
	}
}

func TestWrongSets(t *testing.T) {
	for name, wrong := range wrongSets() {
		t.Run(name, func(t *testing.T) {
			if impl.DatumOK(wrong) {
				t.Error("DatumOK is true")
			}
			for _, a := range append(risingAtoms(), impl.Atom{}) {
				if has, code := impl.DatumHas(wrong, a); has || code != impl.ErrBad {
					t.Errorf("DatumHas(%.60v) is %v, %d", a, has, code)
				}
			}
			for _, d := range rightSets() {
				pairIs(t, wrong, d, impl.ErrBad)
				pairIs(t, d, wrong, impl.ErrBad)
			}
			pairIs(t, wrong, wrong, impl.ErrBad)
		})
	}
}

func TestWhatASetHas(t *testing.T) {
	for _, d := range rightSets() {
		for _, a := range risingAtoms() {
			want := slices.Contains(d, a)
			if has, code := impl.DatumHas(d, a); has != want || code != impl.OK {
				t.Errorf("DatumHas(%.60v, %.60v) is %v, %d", d, a, has, code)
			}
		}
		for _, a := range d {
			if has, code := impl.DatumHas(d, a); !has || code != impl.OK {
				t.Errorf("DatumHas of %.60v and its own %.60v is %v, %d", d, a, has, code)
			}
		}
	}
}

func TestSetsOfDifferentKinds(t *testing.T) {
	for _, a := range rightSets() {
		for _, b := range rightSets() {
			if len(a) > 0 && len(b) > 0 && a[0].Kind != b[0].Kind {
				pairIs(t, a, b, impl.ErrType)
			}
		}
		for _, none := range [][]impl.Atom{nil, {}} {
			joined, code := impl.DatumJoin(a, none)
			setIs(t, "DatumJoin with nothing", joined, code, a, impl.OK)
			joined, code = impl.DatumJoin(none, a)
			setIs(t, "DatumJoin of nothing", joined, code, a, impl.OK)
			less, code := impl.DatumLess(a, none)
			setIs(t, "DatumLess of nothing", less, code, a, impl.OK)
			less, code = impl.DatumLess(none, a)
			setIs(t, "DatumLess from nothing", less, code, nil, impl.OK)
		}
	}
}

// The codes of a list of atoms come in turn: what stands ahead counts, and of one atom ErrBad ahead of ErrType.
func TestWhichCodeAListHas(t *testing.T) {
	one, word, truth, row, none := intAtom(1), textAtom("a"), boolAtom(1), idAtom(1), impl.Atom{}
	wrongWord, wrongOne := textAtom("\n"), intAtom(1000000001)
	for _, c := range []struct {
		list []impl.Atom
		code int
	}{
		{atoms(one, word), impl.ErrType},
		{atoms(word, one), impl.ErrType},
		{atoms(one, truth), impl.ErrType},
		{atoms(one, row), impl.ErrType},
		{atoms(row, truth), impl.ErrType},
		{atoms(one, one, one, word, one), impl.ErrType},
		{atoms(none, one, word), impl.ErrBad},
		{atoms(one, none, word), impl.ErrBad},
		{atoms(one, word, none), impl.ErrType},
		{atoms(one, wrongOne, word), impl.ErrBad},
		{atoms(one, word, wrongOne), impl.ErrType},
		{atoms(one, wrongWord), impl.ErrBad},
		{atoms(one, wrongWord, word), impl.ErrBad},
		{atoms(one, word, wrongWord), impl.ErrType},
		{atoms(wrongWord, one), impl.ErrBad},
		{atoms(wrongWord, word), impl.ErrBad},
		{ints(0, 9), impl.ErrMany},
		{append(ints(0, 9), none), impl.ErrBad},
		{append(ints(0, 9), word), impl.ErrType},
		{append(ints(0, 9), word, none), impl.ErrType},
		{append(ints(0, 9), none, word), impl.ErrBad},
		{append(atoms(word), ints(0, 9)...), impl.ErrType},
		{append(atoms(none), ints(0, 9)...), impl.ErrBad},
		{append(ints(0, impl.MaxList-1), none), impl.ErrBad},
		{append(ints(0, impl.MaxList-1), word), impl.ErrType},
	} {
		madeAs(t, c.list, nil, c.code)
	}
}

func TestWhichCodeTwoSetsHave(t *testing.T) {
	falling, mixed := atoms(intAtom(2), intAtom(1)), atoms(intAtom(1), textAtom("a"))
	words := atoms(textAtom("a"))
	pairIs(t, falling, words, impl.ErrBad)
	pairIs(t, words, falling, impl.ErrBad)
	pairIs(t, mixed, words, impl.ErrBad)
	pairIs(t, words, mixed, impl.ErrBad)
	pairIs(t, mixed, nil, impl.ErrBad)
	pairIs(t, nil, mixed, impl.ErrBad)
	pairIs(t, ints(0, 9), ints(9, 17), impl.ErrBad)
	pairIs(t, ints(0, 8), ints(8, 17), impl.ErrBad)
	eight := atoms(textAtom("a"), textAtom("b"), textAtom("c"), textAtom("d"), textAtom("e"), textAtom("f"), textAtom("g"), textAtom("h"))
	pairIs(t, ints(0, 8), eight, impl.ErrType)
	pairIs(t, eight, ints(0, 8), impl.ErrType)
}

func TestJoinedSetsAtTheirEdges(t *testing.T) {
	for count := range impl.MaxSet + 1 {
		a, b := ints(0, count), ints(count, impl.MaxSet)
		for range 2 {
			joined, code := impl.DatumJoin(a, b)
			setIs(t, "DatumJoin to MaxSet", joined, code, ints(0, impl.MaxSet), impl.OK)
			a, b = b, a
		}
		if count == 0 {
			continue
		}
		more := ints(count, impl.MaxSet+1)
		joined, code := impl.DatumJoin(a, more)
		setIs(t, "DatumJoin to one more", joined, code, nil, impl.ErrMany)
		joined, code = impl.DatumJoin(more, a)
		setIs(t, "DatumJoin to one more", joined, code, nil, impl.ErrMany)
		less, code := impl.DatumLess(more, a)
		setIs(t, "DatumLess of others", less, code, more, impl.OK)
	}
	joined, code := impl.DatumJoin(ints(0, 8), ints(0, 8))
	setIs(t, "DatumJoin of the same eight", joined, code, ints(0, 8), impl.OK)
}

func TestLongListsOfAtoms(t *testing.T) {
	eight := slices.Repeat(ints(0, 8), impl.MaxList/8)
	madeAs(t, eight, ints(0, 8), impl.OK)
	slices.Reverse(eight)
	madeAs(t, eight, ints(0, 8), impl.OK)
	eight[len(eight)-1] = intAtom(8)
	madeAs(t, eight, nil, impl.ErrMany)
	madeAs(t, slices.Repeat(atoms(textAtom("a")), impl.MaxList), atoms(textAtom("a")), impl.OK)
	madeAs(t, ints(0, impl.MaxList), nil, impl.ErrMany)
	for _, long := range [][]impl.Atom{
		slices.Repeat(atoms(intAtom(1)), impl.MaxList+1),
		ints(0, impl.MaxList+1),
		make([]impl.Atom, impl.MaxList+1),
		slices.Repeat(atoms(intAtom(1), textAtom("a")), impl.MaxList),
	} {
		madeAs(t, long, nil, impl.ErrLong)
		if impl.DatumOK(long) {
			t.Errorf("DatumOK of %d atoms is true", len(long))
		}
		for _, a := range atoms(intAtom(1), textAtom("a"), impl.Atom{}) {
			if has, code := impl.DatumHas(long, a); has || code != impl.ErrLong {
				t.Errorf("DatumHas of %d atoms is %v, %d", len(long), has, code)
			}
		}
		for _, other := range [][]impl.Atom{nil, ints(0, 8), {textAtom("a")}, {{}}, ints(0, impl.MaxList), long} {
			pairIs(t, long, other, impl.ErrLong)
			pairIs(t, other, long, impl.ErrLong)
		}
	}
}
