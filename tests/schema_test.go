package tests

import (
	"math"
	"reflect"
	"slices"
	"strings"
	"testing"

	"loop.example/g00524/impl"
)

func intColumn(least, most, low, high int) impl.Column {
	return impl.Column{Name: "n", Kind: impl.AtInt, Min: least, Max: most, Low: low, High: high}
}

func textColumn(least, most int) impl.Column {
	return impl.Column{Name: "t", Kind: impl.AtText, Min: least, Max: most}
}

func boolColumn(least, most int) impl.Column {
	return impl.Column{Name: "b", Kind: impl.AtBool, Min: least, Max: most}
}

func refColumn(most int, ref string, strong bool) impl.Column {
	return impl.Column{Name: "r", Kind: impl.AtUuid, Max: most, Ref: ref, Strong: strong}
}

// called answers a column by another name.
func called(c impl.Column, name string) impl.Column {
	c.Name = name
	return c
}

// columns answers so many columns of texts, called c0, c1 and so on.
func columns(count int) []impl.Column {
	var list []impl.Column
	for i := range count {
		list = append(list, called(textColumn(0, 1), "c"+string(rune('0'+i%10))+strings.Repeat("x", i/10%30)))
	}
	return list
}

func table(name string, list ...impl.Column) impl.Table {
	return impl.Table{Name: name, Columns: list}
}

func schema(list ...impl.Table) impl.Schema { return impl.Schema{Tables: list} }

// unique answers a table with some of its columns' places in Unique.
func unique(t impl.Table, places ...int) impl.Table {
	t.Unique = places
	return t
}

// edgeNumbers are those at which bounds begin and end, and one beyond.
func edgeNumbers() []int {
	return []int{math.MinInt, -1000000001, -1000000000, -2, -1, 0, 1, 2, 1000000000, 1000000001, math.MaxInt}
}

func edgeNames() map[string]bool {
	return map[string]bool{
		"": false, "a": true, "_uuid": true, "Z9": true, "9": false, "a-b": false, " a": false, "a\n": false, "é": false,
		strings.Repeat("a", impl.MaxName): true, strings.Repeat("a", impl.MaxName+1): false, strings.Repeat("a", impl.MaxText+1): false,
	}
}

// columnIs tells whether a column is right, or what hinders it, in all calls that take one.
func columnIs(t *testing.T, c impl.Column, right bool) {
	t.Helper()
	if impl.ColumnOK(c) != right {
		t.Errorf("ColumnOK(%.100v) is %v", c, !right)
	}
	code := impl.ErrBad
	if right {
		code = impl.OK
	}
	if fit, got := impl.Fits(c, nil); got != code || fit != impl.OK && (!right || c.Min == 0 || fit != impl.ErrMany) {
		t.Errorf("Fits(%.100v) of nothing is %d, %d", c, fit, got)
	}
	if d, got := impl.DefaultOf(c); got != code || !right && len(d) != 0 {
		t.Errorf("DefaultOf(%.100v) is %v, %d", c, d, got)
	}
	if place, got := impl.ColumnOf(table("t", c), c.Name); len(c.Name) <= impl.MaxText && (place != 0 || got != code) {
		t.Errorf("ColumnOf(%.100v) is %d, %d", c, place, got)
	}
}

func TestNamesOfColumns(t *testing.T) {
	for name, right := range edgeNames() {
		columnIs(t, called(intColumn(0, 1, 0, 0), name), right)
		columnIs(t, called(textColumn(1, 1), name), right)
		columnIs(t, called(boolColumn(0, 8), name), right)
		columnIs(t, called(refColumn(1, "a", true), name), right)
	}
}

func TestKindsOfColumns(t *testing.T) {
	for _, kind := range append(edgeNumbers(), impl.AtBool, impl.AtUuid, 5, 6) {
		plain := impl.Column{Name: "a", Kind: kind, Max: 1}
		columnIs(t, plain, kind >= impl.AtInt && kind <= impl.AtBool)
		plain.Ref = "a"
		columnIs(t, plain, kind == impl.AtUuid)
	}
}

func TestHowManyAtomsAColumnHas(t *testing.T) {
	for _, least := range append(edgeNumbers(), 8, 9) {
		for _, most := range append(edgeNumbers(), 7, 8, 9) {
			right := (least == 0 || least == 1) && most >= 1 && most <= impl.MaxSet
			columnIs(t, intColumn(least, most, 0, 0), right)
			columnIs(t, intColumn(least, most, -7, 1000000000), right)
			columnIs(t, textColumn(least, most), right)
			columnIs(t, boolColumn(least, most), right)
			for _, strong := range []bool{false, true} {
				c := refColumn(most, "a", strong)
				c.Min = least
				columnIs(t, c, right && least == 0)
			}
		}
	}
}

func TestBoundsOfColumns(t *testing.T) {
	for _, low := range edgeNumbers() {
		for _, high := range edgeNumbers() {
			within := low >= -1000000000 && low <= high && high <= 1000000000
			for least := range 2 {
				columnIs(t, intColumn(least, 1, low, high), within)
				columnIs(t, intColumn(least, 8, low, high), within)
			}
			for _, c := range []impl.Column{textColumn(0, 1), textColumn(1, 1), boolColumn(0, 2), boolColumn(1, 1), refColumn(8, "a", false), refColumn(8, "a", true)} {
				c.Low, c.High = low, high
				columnIs(t, c, low == 0 && high == 0)
			}
		}
	}
}

func TestRefsOfColumns(t *testing.T) {
	for name, right := range edgeNames() {
		for _, strong := range []bool{false, true} {
			columnIs(t, refColumn(1, name, strong), right)
			for _, c := range []impl.Column{intColumn(0, 1, 0, 0), intColumn(1, 1, -1, 1), textColumn(0, 1), textColumn(1, 8), boolColumn(0, 1), boolColumn(1, 1)} {
				c.Ref, c.Strong = name, strong
				columnIs(t, c, name == "" && !strong)
			}
		}
	}
}

// rightTables are right ones that refer to no other table than that of the name t.
func rightTables() map[string]impl.Table {
	return map[string]impl.Table{
		"one column":              table("t", textColumn(0, 1)),
		"MaxColumns columns":      table("t", columns(impl.MaxColumns)...),
		"a column of its name":    table("t", called(textColumn(0, 1), "t")),
		"_uuid":                   table("t", called(boolColumn(1, 1), "_uuid")),
		"names that fall":         table("t", called(textColumn(0, 1), "b"), called(textColumn(0, 1), "a")),
		"names of either case":    table("t", called(textColumn(0, 1), "a"), called(textColumn(0, 1), "A")),
		"all kinds":               table("t", intColumn(0, 1, 0, 1), textColumn(1, 2), boolColumn(0, 3), refColumn(4, "t", true)),
		"a ref to itself":         table("t", refColumn(8, "t", false)),
		"a root":                  {Name: "t", Columns: columns(1), Root: true},
		"one unique column":       unique(table("t", columns(1)...), 0),
		"the last one unique":     unique(table("t", columns(6)...), 5),
		"all unique":              unique(table("t", columns(6)...), 0, 1, 2, 3, 4, 5),
		"some unique":             unique(table("t", columns(6)...), 0, 2, 5),
		"a ref that is unique":    unique(table("t", textColumn(0, 1), refColumn(8, "t", false)), 1),
		"an empty list of unique": {Name: "t", Columns: columns(2), Unique: []int{}},
	}
}

// wrongTables are those that are none, though what they refer to may be there.
func wrongTables() map[string]impl.Table {
	two := columns(2)
	wrong := map[string]impl.Table{
		"nothing":                  {},
		"no column":                table("t"),
		"an empty list of columns": {Name: "t", Columns: []impl.Column{}},
		"no column, one unique":    unique(table("t"), 0),
		"MaxColumns and one more":  table("t", columns(impl.MaxColumns+1)...),
		"two times MaxColumns":     table("t", columns(impl.MaxColumns*2)...),
		"more columns than a list": table("t", slices.Repeat(columns(6), impl.MaxList)...),
		"a column twice":           table("t", two[0], two[0]),
		"a column twice, apart":    table("t", two[0], two[1], two[0]),
		"the last column twice":    table("t", append(columns(5), columns(5)[4])...),
		"a name twice":             table("t", textColumn(0, 1), called(boolColumn(0, 1), "t")),
		"a wrong column":           table("t", impl.Column{}),
		"a wrong column first":     table("t", append([]impl.Column{{}}, two...)...),
		"a wrong column last":      table("t", append(columns(5), textColumn(0, 9))...),
		"a ref to no name":         table("t", refColumn(1, "9", true)),
	}
	for name, right := range edgeNames() {
		if !right {
			wrong["called "+name[:min(9, len(name))]+string(rune('0'+len(name)%10))] = table(name, columns(1)...)
		}
	}
	for name, places := range map[string][]int{
		"-1": {-1}, "as many": {2}, "one of too many": {0, 2}, "falling": {1, 0}, "twice": {0, 0}, "the last twice": {0, 1, 1}, "more than columns": {0, 1, 2},
		"the least": {math.MinInt}, "the greatest": {math.MaxInt}, "the greatest behind": {0, math.MaxInt}, "-1 ahead": {-1, 0, 1}, "many": slices.Repeat([]int{0}, impl.MaxList+1),
	} {
		wrong["unique: "+name] = unique(table("t", two...), places...)
	}
	return wrong
}

// schemaIs tells whether a schema is right, as SchemaOK and TableOf tell it.
func schemaIs(t *testing.T, s impl.Schema, right bool) {
	t.Helper()
	if impl.SchemaOK(s) != right {
		t.Errorf("SchemaOK is %v", !right)
	}
	for i, x := range s.Tables[:min(len(s.Tables), 9)] {
		want, wantCode := i, impl.OK
		if !right {
			want, wantCode = 0, impl.ErrBad
		}
		if place, code := impl.TableOf(s, x.Name); len(x.Name) <= impl.MaxText && (place != want || code != wantCode) {
			t.Errorf("TableOf(%q) is %d, %d", x.Name, place, code)
		}
	}
	for _, name := range []string{"", "T", "tt", "9", "_uui", strings.Repeat("t", impl.MaxText)} {
		wantCode := impl.ErrTable
		if !right {
			wantCode = impl.ErrBad
		}
		if place, code := impl.TableOf(s, name); place != 0 || code != wantCode {
			t.Errorf("TableOf(%.20q) is %d, %d, not %d", name, place, code, wantCode)
		}
	}
	long := strings.Repeat("t", impl.MaxText+1)
	if place, code := impl.TableOf(s, long); place != 0 || code != impl.ErrLong {
		t.Errorf("TableOf of a long name is %d, %d", place, code)
	}
}

// tableIs tells what ColumnOf answers of a table.
func tableIs(t *testing.T, x impl.Table, right bool) {
	t.Helper()
	for i, c := range x.Columns[:min(len(x.Columns), 9)] {
		want, wantCode := i, impl.OK
		if !right {
			want, wantCode = 0, impl.ErrBad
		}
		if place, code := impl.ColumnOf(x, c.Name); place != want || code != wantCode {
			t.Errorf("ColumnOf(%q) is %d, %d", c.Name, place, code)
		}
	}
	for _, name := range []string{"", "T", "c", "c00", "9", strings.Repeat("t", impl.MaxText)} {
		wantCode := impl.ErrColumn
		if !right {
			wantCode = impl.ErrBad
		}
		if place, code := impl.ColumnOf(x, name); place != 0 || code != wantCode {
			t.Errorf("ColumnOf(%.20q) is %d, %d, not %d", name, place, code, wantCode)
		}
	}
	long := strings.Repeat("c", impl.MaxText+1)
	if place, code := impl.ColumnOf(x, long); place != 0 || code != impl.ErrLong {
		t.Errorf("ColumnOf of a long name is %d, %d", place, code)
	}
}

func TestRightTables(t *testing.T) {
	for name, x := range rightTables() {
		t.Run(name, func(t *testing.T) {
			tableIs(t, x, true)
			schemaIs(t, schema(x), true)
			schemaIs(t, schema(table("s", columns(6)...), x, table("u", columns(1)...)), true)
		})
	}
	for name, right := range edgeNames() {
		if right {
			tableIs(t, table(name, columns(3)...), true)
			schemaIs(t, schema(table(name, refColumn(1, name, true))), true)
		}
	}
}

func TestWrongTables(t *testing.T) {
	for name, x := range wrongTables() {
		t.Run(name, func(t *testing.T) {
			tableIs(t, x, false)
			schemaIs(t, schema(x), false)
			schemaIs(t, schema(table("s", columns(6)...), x), false)
			schemaIs(t, schema(x, table("u", columns(6)...)), false)
		})
	}
}

// A table alone is right whatever it refers to: the schema must have it.
func TestColumnOfATableThatRefersElsewhere(t *testing.T) {
	x := table("t", textColumn(0, 1), refColumn(1, "u", true))
	tableIs(t, x, true)
	schemaIs(t, schema(x), false)
}

// someTables answers right tables of some names.
func someTables(names ...string) []impl.Table {
	var list []impl.Table
	for _, name := range names {
		list = append(list, table(name, columns(1)...))
	}
	return list
}

func TestTablesOfASchema(t *testing.T) {
	for _, names := range [][]string{
		{"a"}, {"a", "b"}, {"a", "b", "c"}, {"a", "b", "c", "d"}, {"A", "Z", "_", "a"}, {"a", "a1", "aa", "b"}, {"B", "a"}, {"a", "a_"}, {"a10", "a9"},
		{"note", "port", "switch"}, {"port"}, {"switch"}, {"note", "switch"}, {"a", "note", "port", "switch"}, {"port", "switch", "x", "y"},
	} {
		schemaIs(t, schema(someTables(names...)...), true)
	}
	for _, names := range [][]string{
		nil, {"a", "a"}, {"b", "a"}, {"a", "b", "a"}, {"a", "b", "b"}, {"a", "c", "b"}, {"b", "a", "c", "d"}, {"a", "B"}, {"aa", "a"}, {"a9", "a10"}, {"a", "_"},
		{"a", "b", "c", "d", "e"}, {"port", "note"}, {"note", "port", "port", "switch"}, {"switch", "port", "note"}, {"a", "b", "c", "d", "d"},
	} {
		schemaIs(t, schema(someTables(names...)...), false)
	}
	schemaIs(t, impl.Schema{}, false)
	schemaIs(t, impl.Schema{Tables: []impl.Table{}}, false)
	schemaIs(t, schema(make([]impl.Table, impl.MaxList+1)...), false)
	schemaIs(t, schema(slices.Repeat(someTables("a", "b"), impl.MaxList)...), false)
}

func TestRefsOfASchema(t *testing.T) {
	for ref, right := range map[string]bool{"a": true, "m": true, "z": true, "b": false, "A": false, "mm": false, "r": false, "_": false, "_uuid": false, "n": false} {
		for place := range 3 {
			for _, strong := range []bool{false, true} {
				tables := someTables("a", "m", "z")
				tables[place].Columns = []impl.Column{intColumn(0, 1, 0, 0), refColumn(8, ref, strong)}
				schemaIs(t, schema(tables...), right)
				tables[place].Columns = append(tables[place].Columns, called(refColumn(1, "m", false), "s"))
				schemaIs(t, schema(tables...), right)
				slices.Reverse(tables[place].Columns)
				schemaIs(t, schema(tables...), right)
			}
		}
	}
}

// fits tells what Fits answers.
func fits(t *testing.T, c impl.Column, d []impl.Atom, want, wantCode int) {
	t.Helper()
	if fit, code := impl.Fits(c, d); fit != want || code != wantCode {
		t.Errorf("Fits(%.100v, %.100v) is %d, %d, not %d, %d", c, d, fit, code, want, wantCode)
	}
}

// rightColumns are right ones of all kinds, with the least and the greatest bounds.
func rightColumns() []impl.Column {
	var list []impl.Column
	for _, most := range []int{1, 2, 7, impl.MaxSet} {
		for least := range 2 {
			list = append(list, textColumn(least, most), boolColumn(least, most))
			for _, low := range edgeNumbers() {
				for _, high := range edgeNumbers() {
					if low >= -1000000000 && low <= high && high <= 1000000000 {
						list = append(list, intColumn(least, most, low, high))
					}
				}
			}
		}
		list = append(list, refColumn(most, "a", false), refColumn(most, "_uuid", true), called(refColumn(most, "r", true), strings.Repeat("r", impl.MaxName)))
	}
	return list
}

func TestSetsOfOtherKinds(t *testing.T) {
	for _, c := range rightColumns() {
		for _, d := range rightSets() {
			if len(d) > 0 && d[0].Kind != c.Kind {
				fits(t, c, d, impl.ErrType, impl.OK)
			}
		}
	}
}

func TestWrongSetsFitNothing(t *testing.T) {
	for _, c := range append(rightColumns()[:40], refColumn(8, "a", false), impl.Column{}) {
		for _, d := range wrongSets() {
			fits(t, c, d, 0, impl.ErrBad)
		}
		fits(t, c, make([]impl.Atom, impl.MaxList), 0, impl.ErrBad)
		fits(t, c, ints(0, impl.MaxList), 0, impl.ErrBad)
		fits(t, c, make([]impl.Atom, impl.MaxList+1), 0, impl.ErrLong)
		fits(t, c, ints(0, impl.MaxList+1), 0, impl.ErrLong)
	}
}

func TestNothingFitsAWrongColumn(t *testing.T) {
	for _, c := range []impl.Column{{}, textColumn(0, 9), textColumn(2, 8), textColumn(-1, 1), boolColumn(0, 0), intColumn(0, 1, 2, 1), intColumn(0, 1, 0, 1000000001), refColumn(1, "", false), called(textColumn(0, 1), "9")} {
		for _, d := range rightSets() {
			fits(t, c, d, 0, impl.ErrBad)
		}
		if d, code := impl.DefaultOf(c); len(d) != 0 || code != impl.ErrBad {
			t.Errorf("DefaultOf(%v) is %v, %d", c, d, code)
		}
	}
}

func TestHowManyAtomsFit(t *testing.T) {
	for least := range 2 {
		for most := 1; most <= impl.MaxSet; most++ {
			for count := range impl.MaxSet + 1 {
				want := impl.OK
				if count < least || count > most {
					want = impl.ErrMany
				}
				var words, rows []impl.Atom
				for i := range count {
					words, rows = append(words, textAtom(string(rune('a'+i)))), append(rows, idAtom(i+1))
				}
				fits(t, intColumn(least, most, 0, 7), ints(0, count), want, impl.OK)
				fits(t, textColumn(least, most), words, want, impl.OK)
				if count <= 2 {
					fits(t, boolColumn(least, most), []impl.Atom{boolAtom(0), boolAtom(1)}[:count], want, impl.OK)
				}
				if least == 0 {
					fits(t, refColumn(most, "a", most%2 == 0), rows, want, impl.OK)
				}
			}
		}
	}
}

func TestNumbersAtTheBoundsOfAColumn(t *testing.T) {
	for _, c := range rightColumns() {
		if c.Kind != impl.AtInt {
			continue
		}
		for _, bound := range []int{c.Low, c.High, 0, -1000000000, 1000000000} {
			for n := bound - 1; n <= bound+1; n++ {
				if n < -1000000000 || n > 1000000000 {
					fits(t, c, atoms(intAtom(n)), 0, impl.ErrBad)
				} else if n < c.Low || n > c.High {
					fits(t, c, atoms(intAtom(n)), impl.ErrRange, impl.OK)
				} else {
					fits(t, c, atoms(intAtom(n)), impl.OK, impl.OK)
				}
			}
		}
	}
}

// One number of a set that is out of the bounds is enough, wherever it stands.
func TestEachNumberIsWithinTheBounds(t *testing.T) {
	for low := -3; low <= 4; low++ {
		for high := low; high <= 4; high++ {
			for begin := -4; begin <= 5; begin++ {
				for end := begin + 1; end <= min(begin+4, 6); end++ {
					want := impl.OK
					if begin < low || end-1 > high {
						want = impl.ErrRange
					}
					fits(t, intColumn(1, 4, low, high), ints(begin, end), want, impl.OK)
				}
			}
		}
	}
	fits(t, intColumn(0, 8, -1, 1), atoms(intAtom(-2), intAtom(0), intAtom(1)), impl.ErrRange, impl.OK)
	fits(t, intColumn(0, 8, -1, 1), atoms(intAtom(-1), intAtom(0), intAtom(2)), impl.ErrRange, impl.OK)
	fits(t, intColumn(0, 8, -1, 1), atoms(intAtom(-2), intAtom(2)), impl.ErrRange, impl.OK)
}

// Rows and bools have no bounds, though those of their column are 0.
func TestBoundsAreOfNumbersAlone(t *testing.T) {
	fits(t, refColumn(8, "a", true), atoms(idAtom(1), idAtom(1000000)), impl.OK, impl.OK)
	fits(t, boolColumn(1, 1), atoms(boolAtom(1)), impl.OK, impl.OK)
	fits(t, boolColumn(0, 2), atoms(boolAtom(0), boolAtom(1)), impl.OK, impl.OK)
	fits(t, textColumn(1, 1), atoms(textAtom(strings.Repeat("~", 200))), impl.OK, impl.OK)
}

func TestWhichCodeOfTwoIsDue(t *testing.T) {
	two, three := atoms(intAtom(5), intAtom(6)), atoms(textAtom("a"), textAtom("b"), textAtom("c"))
	fits(t, intColumn(1, 1, 0, 4), two, impl.ErrMany, impl.OK)
	fits(t, intColumn(0, 2, 0, 4), two, impl.ErrRange, impl.OK)
	fits(t, intColumn(1, 2, 0, 9), three, impl.ErrType, impl.OK)
	fits(t, textColumn(1, 1), two, impl.ErrType, impl.OK)
	fits(t, textColumn(1, 2), three, impl.ErrMany, impl.OK)
	fits(t, refColumn(1, "a", false), two, impl.ErrType, impl.OK)
	fits(t, intColumn(1, 1, 5, 5), nil, impl.ErrMany, impl.OK)
	fits(t, intColumn(2, 1, 0, 4), three, 0, impl.ErrBad)
	fits(t, intColumn(0, 8, 0, 4), ints(0, 9), 0, impl.ErrBad)
	fits(t, intColumn(0, 1, 0, 4), atoms(intAtom(1), textAtom("a")), 0, impl.ErrBad)
	fits(t, intColumn(0, 1, -1000000000, 1000000000), atoms(intAtom(1000000001)), 0, impl.ErrBad)
	fits(t, impl.Column{}, make([]impl.Atom, impl.MaxList+1), 0, impl.ErrLong)
}

func TestPlainSchema(t *testing.T) {
	want := impl.Schema{Tables: []impl.Table{
		{Name: "note", Root: true, Columns: []impl.Column{
			{Name: "name", Kind: 2, Min: 1, Max: 1},
			{Name: "about", Kind: 4, Max: 4, Ref: "port"},
		}},
		{Name: "port", Unique: []int{0}, Columns: []impl.Column{
			{Name: "name", Kind: 2, Min: 1, Max: 1},
			{Name: "tag", Kind: 1, Max: 1, High: 99},
			{Name: "up", Kind: 3, Min: 1, Max: 1},
		}},
		{Name: "switch", Unique: []int{0}, Root: true, Columns: []impl.Column{
			{Name: "name", Kind: 2, Min: 1, Max: 1},
			{Name: "count", Kind: 1, Min: 1, Max: 1, Low: -1000, High: 1000},
			{Name: "ports", Kind: 4, Max: 8, Ref: "port", Strong: true},
		}},
	}}
	s := impl.PlainSchema()
	if len(s.Tables[0].Unique) == 0 {
		s.Tables[0].Unique = nil
	}
	if !reflect.DeepEqual(s, want) {
		t.Errorf("PlainSchema is %v", s)
	}
	schemaIs(t, s, true)
	for _, x := range s.Tables {
		tableIs(t, x, true)
	}
}

// The tables of the plain schema are asked of schemas that have them elsewhere, or not.
func TestPlainNamesInOtherSchemas(t *testing.T) {
	for _, names := range [][]string{{"note"}, {"port"}, {"switch"}, {"a", "note"}, {"a", "port"}, {"port", "switch"}, {"note", "switch"}, {"a", "b", "c", "note"}, {"a", "note", "port", "switch"}, {"note", "o", "port", "switch"}} {
		s := schema(someTables(names...)...)
		for _, name := range []string{"note", "port", "switch"} {
			want, wantCode := slices.Index(names, name), impl.OK
			if want < 0 {
				want, wantCode = 0, impl.ErrTable
			}
			if place, code := impl.TableOf(s, name); place != want || code != wantCode {
				t.Errorf("TableOf(%v, %q) is %d, %d", names, name, place, code)
			}
		}
	}
}
