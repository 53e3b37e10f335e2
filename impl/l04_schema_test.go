package impl

import (
	"maps"
	"sync"
	"testing"
)

// plainSays is where chapter 5 of the document has the tables of the plain schema, told once more.
func plainSays() map[string]int {
	return map[string]int{"note": 0, "port": 1, "switch": 2}
}

// The map is looked at only behind a call of TableOf, which must have made it.
func TestPlainTablesAreWhereTheMapSays(t *testing.T) {
	s := PlainSchema()
	for _, name := range []string{"note", "port", "switch", "", "name", "x"} {
		place, code := TableOf(s, name)
		if !maps.Equal(plainPlaces, placesOf(s)) || !maps.Equal(plainPlaces, plainSays()) {
			t.Fatalf("behind TableOf(%q) the map is %v", name, plainPlaces)
		}
		want, there := plainSays()[name]
		if there && (place != want || code != OK) || !there && (place != 0 || code != ErrTable) {
			t.Errorf("TableOf(%q) is %d, %d", name, place, code)
		}
	}
}

func TestTheMapIsMadeOnce(t *testing.T) {
	TableOf(PlainSchema(), "note")
	right := plainPlaces
	defer func() { plainPlaces = right }()
	plainPlaces = map[string]int{"note": 7}
	TableOf(PlainSchema(), "note")
	if !maps.Equal(plainPlaces, map[string]int{"note": 7}) {
		t.Errorf("the map is made again: %v", plainPlaces)
	}
}

func TestNoAnswerHangsOnTheMap(t *testing.T) {
	TableOf(PlainSchema(), "note")
	right := plainPlaces
	defer func() { plainPlaces = right }()
	column := []Column{{Name: "a", Kind: AtText, Max: 1}}
	other := Schema{Tables: []Table{{Name: "a", Columns: column}, {Name: "note", Columns: column}, {Name: "switch", Columns: column}}}
	for _, spoilt := range []map[string]int{
		nil,
		{},
		{"note": 1, "port": 2, "switch": 0, "a": 2, "x": 0},
		{"note": -1, "port": 3, "switch": 1 << 62, "a": -1 << 63, "x": 1},
	} {
		plainPlaces = spoilt
		for name, want := range plainSays() {
			if place, code := TableOf(PlainSchema(), name); place != want || code != OK {
				t.Errorf("%v: TableOf(%q) is %d, %d", spoilt, name, place, code)
			}
		}
		for name, want := range map[string]int{"a": 0, "note": 1, "switch": 2} {
			if place, code := TableOf(other, name); place != want || code != OK {
				t.Errorf("%v: TableOf(%q) of another schema is %d, %d", spoilt, name, place, code)
			}
		}
		for _, s := range []Schema{PlainSchema(), other} {
			if place, code := TableOf(s, "x"); place != 0 || code != ErrTable || !SchemaOK(s) {
				t.Errorf("%v: TableOf of no table is %d, %d", spoilt, place, code)
			}
		}
	}
}

// The map is forgotten first, so that the calls meet where it is made; behind them it is as it was.
func TestTheMapIsMadeAtTheSameTime(t *testing.T) {
	plainPlaced = sync.Once{}
	plainPlaces = nil
	var all sync.WaitGroup
	for range 16 {
		all.Go(func() {
			if place, code := TableOf(PlainSchema(), "switch"); place != 2 || code != OK {
				t.Errorf("TableOf is %d, %d", place, code)
			}
		})
	}
	all.Wait()
	if !maps.Equal(plainPlaces, plainSays()) {
		t.Errorf("the map is %v", plainPlaces)
	}
}
