package impl

import (
	"maps"
	"strings"
	"sync"
	"testing"
)

// plainSays is where chapter 5 of the document has the tables of the plain schema, told once more.
func plainSays() map[string]int {
	return map[string]int{"note": 0, "port": 1, "switch": 2}
}

// The map is looked at only behind a call of TableOf, which must have made it.
func TestPlainTablesAreWhereTheMapSays(t *testing.T) {
	s := PlainSchema()
	for _, name := range []string{"note", "port", "switch", "", "name", "x"} {
		place, code := TableOf(s, name)
		if !maps.Equal(plainPlaces, placesOf(s)) || !maps.Equal(plainPlaces, plainSays()) {
			t.Fatalf("behind TableOf(%q) the map is %v", name, plainPlaces)
		}
		want, there := plainSays()[name]
		if there && (place != want || code != OK) || !there && (place != 0 || code != ErrTable) {
			t.Errorf("TableOf(%q) is %d, %d", name, place, code)
		}
	}
}

// namesOfNone are texts that no table of the plain schema is called.
func namesOfNone() []string {
	return []string{"", "name", "x", "Note", "note ", " note", "not", "notes", "ports", "switch\x00", "_uuid", "\xff", strings.Repeat("n", MaxName), strings.Repeat("n", MaxName+1), strings.Repeat("n", MaxText)}
}

// placedBy tells that a table is where the document says, or is none, by the map, by the function, by TableOf and by
// what OpCode asks. The map is there: TableOf is called ahead.
func placedBy(t *testing.T, name string, want int) {
	t.Helper()
	s := PlainSchema()
	place, code := TableOf(s, name)
	byMap, there := plainPlaces[name]
	called, calledCode := tableCalled(s, name)
	if want < 0 {
		if there || tablePlace(s, name) != -1 || place != 0 || code != ErrTable || called.Name != "" || calledCode != ErrTable {
			t.Errorf("%.50q is %d, %v by the map, %d by the function, %d, %d by TableOf, %d by OpCode", name, byMap, there, tablePlace(s, name), place, code, calledCode)
		}
		return
	}
	if !there || byMap != want || tablePlace(s, name) != want || place != want || code != OK || called.Name != name || calledCode != OK {
		t.Errorf("%q is %d, %v by the map, %d by the function, %d, %d by TableOf, %q, %d by OpCode", name, byMap, there, tablePlace(s, name), place, code, called.Name, calledCode)
	}
}

func TestTablesStandTheSameByTheMapAndByTheFunction(t *testing.T) {
	for name, want := range plainSays() {
		placedBy(t, name, want)
	}
	for _, name := range namesOfNone() {
		placedBy(t, name, -1)
	}
}

// Of other schemas the function tells what TableOf tells, whatever the plain one has there.
func TestTablesOfOtherSchemasStandTheSame(t *testing.T) {
	column := []Column{{Name: "a", Kind: AtText, Max: 1}}
	names := append(namesOfNone(), "note", "port", "switch", "a", "b", "z")
	for _, tables := range [][]string{{"a"}, {"note"}, {"switch"}, {"port", "switch"}, {"a", "note", "port", "switch"}, {"note", "port", "switch", "z"}, {"a", "b", "z"}} {
		var s Schema
		for _, name := range tables {
			s.Tables = append(s.Tables, Table{Name: name, Columns: column})
		}
		for _, name := range names {
			want, wantCode := 0, ErrTable
			for i := range tables {
				if tables[i] == name {
					want, wantCode = i, OK
				}
			}
			place, code := TableOf(s, name)
			byFunction := tablePlace(s, name)
			if place != want || code != wantCode || wantCode == OK && byFunction != want || wantCode != OK && byFunction != -1 {
				t.Errorf("%v: TableOf(%.50q) is %d, %d, the function tells %d", tables, name, place, code, byFunction)
			}
		}
	}
}

func TestTheMapIsMadeOnce(t *testing.T) {
	TableOf(PlainSchema(), "note")
	right := plainPlaces
	defer func() { plainPlaces = right }()
	plainPlaces = map[string]int{"note": 7}
	TableOf(PlainSchema(), "note")
	if !maps.Equal(plainPlaces, map[string]int{"note": 7}) {
		t.Errorf("the map is made again: %v", plainPlaces)
	}
}

func TestNoAnswerHangsOnTheMap(t *testing.T) {
	TableOf(PlainSchema(), "note")
	right := plainPlaces
	defer func() { plainPlaces = right }()
	column := []Column{{Name: "a", Kind: AtText, Max: 1}}
	other := Schema{Tables: []Table{{Name: "a", Columns: column}, {Name: "note", Columns: column}, {Name: "switch", Columns: column}}}
	for _, spoilt := range []map[string]int{
		nil,
		{},
		{"note": 1, "port": 2, "switch": 0, "a": 2, "x": 0},
		{"note": -1, "port": 3, "switch": 1 << 62, "a": -1 << 63, "x": 1},
	} {
		plainPlaces = spoilt
		for name, want := range plainSays() {
			if place, code := TableOf(PlainSchema(), name); place != want || code != OK {
				t.Errorf("%v: TableOf(%q) is %d, %d", spoilt, name, place, code)
			}
		}
		for name, want := range map[string]int{"a": 0, "note": 1, "switch": 2} {
			if place, code := TableOf(other, name); place != want || code != OK {
				t.Errorf("%v: TableOf(%q) of another schema is %d, %d", spoilt, name, place, code)
			}
		}
		for _, s := range []Schema{PlainSchema(), other} {
			if place, code := TableOf(s, "x"); place != 0 || code != ErrTable || !SchemaOK(s) {
				t.Errorf("%v: TableOf of no table is %d, %d", spoilt, place, code)
			}
			for i := range s.Tables {
				if first, code := OpCode(s, Op{Kind: OpDelete, Table: s.Tables[i].Name}); first != OK || code != OK {
					t.Errorf("%v: OpCode of %q is %d, %d", spoilt, s.Tables[i].Name, first, code)
				}
			}
			if first, code := OpCode(s, Op{Kind: OpDelete, Table: "x"}); first != ErrTable || code != OK {
				t.Errorf("%v: OpCode of no table is %d, %d", spoilt, first, code)
			}
		}
	}
}

// The map is forgotten first, so that the calls meet where it is made; behind them it is as it was.
func TestTheMapIsMadeAtTheSameTime(t *testing.T) {
	plainPlaced = sync.Once{}
	plainPlaces = nil
	var all sync.WaitGroup
	for range 16 {
		all.Go(func() {
			if place, code := TableOf(PlainSchema(), "switch"); place != 2 || code != OK {
				t.Errorf("TableOf is %d, %d", place, code)
			}
		})
	}
	all.Wait()
	if !maps.Equal(plainPlaces, plainSays()) {
		t.Errorf("the map is %v", plainPlaces)
	}
}
