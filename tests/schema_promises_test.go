package tests

import (
	"math/rand"
	"reflect"
	"slices"
	"strings"
	"sync"
	"testing"

	"loop.example/g00524/impl"
)

// defaultFits tells that the default of a right column is a set that fits it, and is the one that the document names.
func defaultFits(t *testing.T, c impl.Column, want []impl.Atom) {
	t.Helper()
	d, code := impl.DefaultOf(c)
	setIs(t, "DefaultOf", d, code, want, impl.OK)
	if !impl.DatumOK(d) {
		t.Errorf("DefaultOf(%.100v) is no set: %v", c, d)
	}
	fits(t, c, d, impl.OK, impl.OK)
}

// nearest is what the document says of a default number, told by going away from 0.
func nearest(low, high int) int {
	for away := 0; ; away++ {
		for _, n := range []int{away, -away} {
			if n >= low && n <= high {
				return n
			}
		}
	}
}

func TestPromise5DefaultsOfNumbers(t *testing.T) {
	for low := -12; low <= 12; low++ {
		for high := low; high <= 12; high++ {
			for most := 1; most <= impl.MaxSet; most++ {
				defaultFits(t, intColumn(1, most, low, high), atoms(intAtom(nearest(low, high))))
				defaultFits(t, intColumn(0, most, low, high), nil)
			}
		}
	}
}

func TestPromise5DefaultsAtTheGreatestBounds(t *testing.T) {
	const most = 1000000000
	for _, c := range []struct{ low, high, want int }{
		{-most, most, 0}, {-most, 0, 0}, {0, most, 0}, {0, 0, 0}, {most, most, most}, {-most, -most, -most},
		{most - 1, most, most - 1}, {-most, 1 - most, 1 - most}, {1, most, 1}, {-most, -1, -1}, {-1, most, 0}, {-most, 1, 0}, {7, most, 7}, {-most, -7, -7},
	} {
		defaultFits(t, intColumn(1, 1, c.low, c.high), atoms(intAtom(c.want)))
		defaultFits(t, intColumn(1, 8, c.low, c.high), atoms(intAtom(c.want)))
		defaultFits(t, intColumn(0, 1, c.low, c.high), nil)
	}
}

func TestPromise5DefaultsOfOtherKinds(t *testing.T) {
	for most := 1; most <= impl.MaxSet; most++ {
		defaultFits(t, textColumn(1, most), atoms(textAtom("")))
		defaultFits(t, textColumn(0, most), nil)
		defaultFits(t, boolColumn(1, most), atoms(boolAtom(0)))
		defaultFits(t, boolColumn(0, most), nil)
		defaultFits(t, refColumn(most, "a", false), nil)
		defaultFits(t, refColumn(most, "a", true), nil)
	}
}

func TestPromise5DefaultsOfAllRightColumns(t *testing.T) {
	for _, c := range rightColumns() {
		d, code := impl.DefaultOf(c)
		if code != impl.OK || len(d) != c.Min {
			t.Errorf("DefaultOf(%.100v) is %v, %d", c, d, code)
		}
		fits(t, c, d, impl.OK, impl.OK)
	}
	for _, x := range impl.PlainSchema().Tables {
		for _, c := range x.Columns {
			d, code := impl.DefaultOf(c)
			if code != impl.OK || len(d) != c.Min {
				t.Errorf("DefaultOf(%v) is %v, %d", c, d, code)
			}
			fits(t, c, d, impl.OK, impl.OK)
		}
	}
}

// someColumn answers a column that is right more often than not.
func someColumn(r *rand.Rand) impl.Column {
	c := impl.Column{Name: "c", Kind: 1 + r.Intn(4), Min: r.Intn(2), Max: 1 + r.Intn(8)}
	switch c.Kind {
	case impl.AtInt:
		c.Low = r.Intn(2000000001) - 1000000000
		c.High = c.Low + r.Intn(1000000001-c.Low)
	case impl.AtUuid:
		c.Min, c.Ref, c.Strong = 0, "c", r.Intn(2) == 0
	}
	if r.Intn(4) > 0 {
		return c
	}
	switch r.Intn(7) {
	case 0:
		c.Name = edgeName(r)
	case 1:
		c.Kind = r.Intn(7) - 1
	case 2:
		c.Min = r.Intn(4) - 1
	case 3:
		c.Max = r.Intn(11) - 1
	case 4:
		c.Low, c.High = r.Intn(9)-4, r.Intn(9)-4
	case 5:
		c.Ref = edgeName(r)
	case 6:
		c.Strong = !c.Strong
	}
	return c
}

func edgeName(r *rand.Rand) string {
	return []string{"", "9", "a", "_uuid", strings.Repeat("a", 40), strings.Repeat("a", 41)}[r.Intn(6)]
}

// A column has a default just when it is right, and that default fits.
func TestPromise5DefaultsOfSomeColumns(t *testing.T) {
	r := rand.New(rand.NewSource(5))
	right := 0
	for range 50000 {
		c := someColumn(r)
		d, code := impl.DefaultOf(c)
		if !impl.ColumnOK(c) {
			fits(t, c, d, 0, impl.ErrBad)
			setIs(t, "DefaultOf of a wrong column", d, code, nil, impl.ErrBad)
			continue
		}
		right++
		if code != impl.OK || len(d) != c.Min {
			t.Errorf("DefaultOf(%v) is %v, %d", c, d, code)
		}
		fits(t, c, d, impl.OK, impl.OK)
	}
	if right < 30000 || right == 50000 {
		t.Errorf("%d columns of 50000 were right", right)
	}
}

// schemaAnswers are those of all calls that take schemas, tables or columns; empty lists and nil are told alike.
func schemaAnswers(s impl.Schema, d []impl.Atom, names ...string) []any {
	all := []any{impl.SchemaOK(s)}
	for _, name := range names {
		place, code := impl.TableOf(s, name)
		all = append(all, place, code)
	}
	for _, x := range s.Tables {
		for _, name := range names {
			place, code := impl.ColumnOf(x, name)
			all = append(all, place, code)
		}
		for _, c := range x.Columns {
			fit, code := impl.Fits(c, d)
			made, madeCode := impl.DefaultOf(c)
			all = append(all, impl.ColumnOK(c), fit, code, append(atoms(), made...), madeCode)
		}
	}
	return append(all, impl.PlainSchema())
}

// someNames are asked for: those of tables and columns, and others.
func someNames() []string {
	return []string{"", "t", "s", "note", "port", "switch", "name", "ports", "c0", "_uuid", "9", strings.Repeat("t", impl.MaxText+1)}
}

// someSchemas are right ones and wrong ones, none of which is long.
func someSchemas() []impl.Schema {
	list := []impl.Schema{{}, impl.PlainSchema(), schema(someTables("a", "note", "port", "switch")...), schema(someTables("switch", "port")...)}
	for _, x := range rightTables() {
		list = append(list, schema(x), schema(table("s", columns(6)...), x))
	}
	for _, x := range wrongTables() {
		if len(x.Columns) < 20 && len(x.Unique) < 20 {
			list = append(list, schema(x), schema(table("s", columns(6)...), x))
		}
	}
	return list
}

// copySchema answers a schema that is alike and shares nothing, its lists with room behind their ends where something stands.
func copySchema(s impl.Schema) impl.Schema {
	tables := make([]impl.Table, len(s.Tables), len(s.Tables)+2)
	for i, x := range s.Tables {
		x.Columns = append(append([]impl.Column{}, x.Columns...), textColumn(7, 7), called(textColumn(0, 1), "behind"))[:len(x.Columns)]
		x.Unique = append(append([]int{}, x.Unique...), -7, 7, 0)[:len(x.Unique)]
		tables[i] = x
	}
	return impl.Schema{Tables: append(tables, table("behind", columns(2)...), impl.Table{Name: "t"})[:len(tables)]}
}

// behind answers all lists of a schema up to where their room ends.
func behind(s impl.Schema) []any {
	all := []any{s.Tables[:cap(s.Tables)]}
	for _, x := range s.Tables {
		all = append(all, x.Columns[:cap(x.Columns)], x.Unique[:cap(x.Unique)])
	}
	return all
}

// kept answers copies of the lists of a schema up to where their room ends.
func kept(s impl.Schema) []any {
	all := []any{slices.Clone(s.Tables[:cap(s.Tables)])}
	for _, x := range s.Tables {
		all = append(all, slices.Clone(x.Columns[:cap(x.Columns)]), slices.Clone(x.Unique[:cap(x.Unique)]))
	}
	return all
}

func TestPromise1SchemasAlikeAnswers(t *testing.T) {
	for _, s := range someSchemas() {
		for _, d := range rightSets()[:8] {
			first := schemaAnswers(s, d, someNames()...)
			impl.TableOf(impl.PlainSchema(), "port")
			impl.TableOf(schema(someTables("port")...), "port")
			impl.SchemaOK(schema(someTables("switch")...))
			impl.DefaultOf(intColumn(1, 1, 3, 9))
			if second := schemaAnswers(copySchema(s), slices.Clone(d), someNames()...); !reflect.DeepEqual(first, second) {
				t.Errorf("%.100v: %.200v, then %.200v", s, first, second)
			}
		}
	}
}

func TestPromise1SchemasStay(t *testing.T) {
	for _, s := range someSchemas() {
		for _, d := range rightSets()[:8] {
			x, y := copySchema(s), withRoom(d)
			before, beforeD := kept(x), slices.Clone(y[:cap(y)])
			schemaAnswers(x, y, someNames()...)
			if !reflect.DeepEqual(behind(x), before) || !slices.Equal(y[:cap(y)], beforeD) {
				t.Fatalf("%.100v or %.100v was changed", s, d)
			}
		}
	}
}

func TestPromise1EmptyListsOfSchemasAreNil(t *testing.T) {
	for _, s := range someSchemas() {
		bare, empty := copySchema(s), copySchema(s)
		for i, x := range s.Tables {
			if len(x.Columns) == 0 {
				bare.Tables[i].Columns, empty.Tables[i].Columns = nil, []impl.Column{}
			}
			if len(x.Unique) == 0 {
				bare.Tables[i].Unique, empty.Tables[i].Unique = nil, []int{}
			}
		}
		if len(s.Tables) == 0 {
			bare.Tables, empty.Tables = nil, []impl.Table{}
		}
		if !reflect.DeepEqual(schemaAnswers(bare, nil, someNames()...), schemaAnswers(empty, atoms(), someNames()...)) {
			t.Errorf("empty lists of %.100v are not as nil", s)
		}
	}
}

// spoilSchema writes into all lists of a schema, behind their ends too.
func spoilSchema(s impl.Schema) {
	for _, x := range s.Tables[:cap(s.Tables)] {
		for i := range x.Columns[:cap(x.Columns)] {
			x.Columns[:cap(x.Columns)][i] = impl.Column{Name: "spoilt"}
		}
		for i := range x.Unique[:cap(x.Unique)] {
			x.Unique[:cap(x.Unique)][i] = -9
		}
	}
	for i := range s.Tables[:cap(s.Tables)] {
		s.Tables[:cap(s.Tables)][i] = impl.Table{Name: "spoilt"}
	}
}

func TestPromise1SchemasAreNew(t *testing.T) {
	right := copySchema(impl.PlainSchema())
	for range 3 {
		spoilSchema(impl.PlainSchema())
		s := impl.PlainSchema()
		if !reflect.DeepEqual(copySchema(s), right) {
			t.Fatalf("a spoilt plain schema spoils the next one: %v", s)
		}
		for place, name := range []string{"note", "port", "switch"} {
			if got, code := impl.TableOf(s, name); got != place || code != impl.OK {
				t.Errorf("behind a spoilt one TableOf(%q) is %d, %d", name, got, code)
			}
		}
	}
	for _, c := range rightColumns() {
		first, _ := impl.DefaultOf(c)
		want := slices.Clone(first)
		spoilAtoms(first)
		second, code := impl.DefaultOf(c)
		setIs(t, "DefaultOf behind a spoilt one", second, code, want, impl.OK)
	}
}

// Each list of a plain schema is its own: what is written into one, behind its end too, is in no other.
func TestPromise1ListsOfASchemaShareNothing(t *testing.T) {
	right := impl.PlainSchema()
	for i := range right.Tables {
		s := impl.PlainSchema()
		for k := range s.Tables[i].Columns[:cap(s.Tables[i].Columns)] {
			s.Tables[i].Columns[:cap(s.Tables[i].Columns)][k].Name = "spoilt"
		}
		for k := range s.Tables[i].Unique[:cap(s.Tables[i].Unique)] {
			s.Tables[i].Unique[:cap(s.Tables[i].Unique)][k] = 2
		}
		for other := range right.Tables {
			if other != i && !reflect.DeepEqual(s.Tables[other], right.Tables[other]) {
				t.Errorf("tables %d and %d share their lists", i, other)
			}
		}
	}
}

func TestPromise1SchemasAtTheSameTime(t *testing.T) {
	schemas := someSchemas()
	var all sync.WaitGroup
	for range 8 {
		all.Go(func() {
			for _, s := range schemas {
				first := schemaAnswers(s, atoms(intAtom(1)), someNames()...)
				if second := schemaAnswers(s, atoms(intAtom(1)), someNames()...); !reflect.DeepEqual(first, second) {
					t.Errorf("%.100v: %.200v, then %.200v", s, first, second)
				}
			}
		})
	}
	all.Wait()
}
