package tests

import (
	"fmt"
	"maps"
	"slices"
	"strings"
	"testing"

	"loop.example/g00524/impl"
)

func jsonOpIs(t *testing.T, what string, j impl.Json, want impl.Op, wantCode int) {
	t.Helper()
	if o, code := impl.JsonOp(j); !alike(o, want) || code != wantCode {
		t.Errorf("%s: JsonOp(%s) is %s, %d, not %s, %d", what, brief(j), brief(o), code, brief(want), wantCode)
	}
}

func jsonMonitorIs(t *testing.T, what, name string, j impl.Json, want impl.Monitor, wantCode int) {
	t.Helper()
	if m, code := impl.JsonMonitor(name, j); !alike(m, want) || code != wantCode {
		t.Errorf("%s: JsonMonitor(%s, %s) is %s, %d, not %s, %d", what, brief(name), brief(j), brief(m), code, brief(want), wantCode)
	}
}

// fieldsTold are fields of an object by their keys.
type fieldsTold map[string]impl.Json

// whole answers the object of all fields.
func (f fieldsTold) whole() impl.Json {
	j := object(nil)
	for _, key := range slices.Sorted(maps.Keys(f)) {
		j.Keys = append(j.Keys, key)
		j.Items = append(j.Items, f[key])
	}
	return j
}

// with answers the fields and one more, or another one in its place.
func (f fieldsTold) with(key string, j impl.Json) fieldsTold {
	made := maps.Clone(f)
	made[key] = j
	return made
}

func (f fieldsTold) without(key string) fieldsTold {
	made := maps.Clone(f)
	delete(made, key)
	return made
}

// The values of an operation's parts.
func datumSaid(d []impl.Atom) impl.Json { return said(datumTold(d)) }

func nameSaid(name string) impl.Json { return list(text("named-uuid"), text(name)) }

func namesSaid(names []string) impl.Json {
	all := list()
	for _, name := range names {
		all.Items = append(all.Items, nameSaid(name))
	}
	return list(text("set"), all)
}

func setSaid(x impl.Set) impl.Json {
	if len(x.Names) == 1 {
		return nameSaid(x.Names[0])
	}
	if len(x.Names) > 0 {
		return namesSaid(x.Names)
	}
	return datumSaid(x.Value)
}

func setsSaid(row []impl.Set) impl.Json {
	f := fieldsTold{}
	for _, x := range row {
		f[x.Column] = setSaid(x)
	}
	return f.whole()
}

func condsSaid(where []impl.Cond) impl.Json {
	all := list()
	for _, c := range where {
		all.Items = append(all.Items, list(text(c.Column), text(impl.FuncWord(c.Func)), datumSaid(c.Value)))
	}
	return all
}

func mutsSaid(some []impl.Mut) impl.Json {
	all := list()
	for _, m := range some {
		all.Items = append(all.Items, list(text(m.Column), text(impl.MutWord(m.Func)), datumSaid(m.Value)))
	}
	return all
}

func textsSaid(some []string) impl.Json {
	all := list()
	for _, s := range some {
		all.Items = append(all.Items, text(s))
	}
	return all
}

// kindWords are the words of the ten kinds.
func kindWords() []string {
	return []string{"", "insert", "select", "update", "mutate", "delete", "wait", "commit", "abort", "comment", "assert"}
}

// nameKeys are how kinds call their Name.
func nameKeys() map[int]string {
	return map[int]string{impl.OpInsert: "uuid-name", impl.OpComment: "comment", impl.OpAssert: "lock"}
}

// opFields answers the fields that tell an operation: those with nothing in them, too, where that can be told.
func opFields(o impl.Op) fieldsTold {
	f := fieldsTold{"op": text(kindWords()[o.Kind]), "where": condsSaid(o.Where), "row": setsSaid(o.Row), "mutations": mutsSaid(o.Muts), "columns": textsSaid(o.Columns), "until": text("!=")}
	if o.Until {
		f["until"] = text("==")
	}
	if o.Table != "" {
		f["table"] = text(o.Table)
	}
	if key, there := nameKeys()[o.Kind]; there {
		f[key] = text(o.Name)
	}
	return f
}

// emptyFields answers the keys of the fields that have nothing in them.
func (f fieldsTold) emptyFields() []string {
	var some []string
	for key, j := range f {
		if j.Kind != impl.JsText && len(j.Items) == 0 || key == "until" && j.T == "!=" || j.Kind == impl.JsText && j.T == "" {
			some = append(some, key)
		}
	}
	slices.Sort(some)
	return some
}

// fullOps are operations of all kinds, with all parts that they have a use for.
func fullOps() []impl.Op {
	where := conds(cond("a", impl.CoEq, intAtom(1)), cond("_uuid", impl.CoIncludes, ids(1, 2)...), cond("b", impl.CoNe))
	row := sets(set("a", intAtom(1)), set("b"), naming("c", "p"), set("d", textAtom("x"), textAtom("y")), naming("e", "q", "p", "q"))
	return ops(
		insertOp("t", "n", row...), selectOp("t", where, "b", "_uuid", "b"), updateOp("t", where, row...), mutateOp("t", where, mut("a", impl.MuAdd, intAtom(4)), mut("b", impl.MuDelete, ids(3)...), mut("a", impl.MuInsert)),
		deleteOp("t", where...), waitOp("t", true, where, row...), commitOp(), abortOp(), commentOp("any words"), assertOp("l"))
}

// Each kind with all its fields, with any of those that have nothing in them, and with any of the others alone.
func TestOperationsByTheirFields(t *testing.T) {
	for _, full := range append(fullOps(), ops(impl.Op{Kind: 1}, impl.Op{Kind: 2}, impl.Op{Kind: 3}, impl.Op{Kind: 4}, impl.Op{Kind: 5}, impl.Op{Kind: 6}, impl.Op{Kind: 9}, impl.Op{Kind: 10})...) {
		f := opFields(full)
		jsonOpIs(t, "all fields", f.whole(), full, impl.OK)
		empty := f.emptyFields()
		for bits := range 1 << len(empty) {
			some := maps.Clone(f)
			for i, key := range empty {
				if bits>>i&1 == 1 {
					delete(some, key)
				}
			}
			jsonOpIs(t, "without some that are empty", some.whole(), full, impl.OK)
		}
	}
	for _, full := range fullOps() {
		kinds := map[string]func(o *impl.Op){
			"table": func(o *impl.Op) { o.Table = "" }, "where": func(o *impl.Op) { o.Where = nil }, "row": func(o *impl.Op) { o.Row = nil }, "mutations": func(o *impl.Op) { o.Muts = nil },
			"columns": func(o *impl.Op) { o.Columns = nil }, "until": func(o *impl.Op) { o.Until = false }, nameKeys()[full.Kind]: func(o *impl.Op) { o.Name = "" },
		}
		for key, clears := range kinds {
			for other, clearsToo := range kinds {
				less := full
				clears(&less)
				clearsToo(&less)
				jsonOpIs(t, "what is not told is empty", opFields(full).without(key).without(other).whole(), less, impl.OK)
			}
		}
		jsonOpIs(t, "nothing but the kind", fieldsTold{"op": text(kindWords()[full.Kind])}.whole(), impl.Op{Kind: full.Kind}, impl.OK)
		jsonOpIs(t, "no kind", opFields(full).without("op").whole(), impl.Op{}, impl.ErrForm)
	}
}

// A field that the document does not name is none, whatever it has; the name of another kind is one of these.
func TestFieldsThatOperationsHaveNot(t *testing.T) {
	others := []string{"", " ", "x", "Op", "op ", "Table", "tables", "wher", "where ", "rows", "Row", "mutation", "column", "Until", "uuid", "name", "uuid_name", "uuid-names", "comments", "locks", "uuid-name", "comment", "lock", "kind", "insert", "error", "~"}
	values := []impl.Json{null(), number(0), truth(false), truth(true), text(""), text("a"), list(), object(nil), list(text("a"))}
	for _, full := range append(fullOps(), impl.Op{Kind: impl.OpInsert}, impl.Op{Kind: impl.OpWait}) {
		for _, key := range others {
			if key == nameKeys()[full.Kind] && key != "" {
				continue
			}
			for _, j := range values {
				jsonOpIs(t, "a field more", opFields(full).with(key, j).whole(), impl.Op{}, impl.ErrForm)
				jsonOpIs(t, "a field beside the kind", fieldsTold{"op": text(kindWords()[full.Kind]), key: j}.whole(), impl.Op{}, impl.ErrForm)
			}
		}
	}
}

// A field that a kind has no use for may have nothing in it, and no more.
func TestFieldsThatAKindHasNoUseFor(t *testing.T) {
	some := map[string]struct{ key, with, without string }{
		"T": {"table", `"t"`, ""}, "W": {"where", `[["a","==",1]]`, "[]"}, "R": {"row", `{"a":1}`, "{}"}, "M": {"mutations", `[["a","+=",1]]`, "[]"}, "C": {"columns", `["a"]`, "[]"}, "U": {"until", `"=="`, `"!="`},
	}
	for kind := 1; kind <= 10; kind++ {
		uses, _ := partsOf(kind)
		begun := fieldsTold{"op": text(kindWords()[kind])}
		for part, x := range some {
			useful := strings.Contains(uses, part)
			o, code := impl.JsonOp(begun.with(x.key, said(x.with)).whole())
			if useful && (code != impl.OK || alike(o, impl.Op{Kind: kind}) || o.Kind != kind) || !useful && (code != impl.ErrForm || !alike(o, impl.Op{})) {
				t.Errorf("kind %d with %s %s: %s, %d", kind, x.key, x.with, brief(o), code)
			}
			if x.without != "" {
				jsonOpIs(t, "nothing in it", begun.with(x.key, said(x.without)).whole(), impl.Op{Kind: kind}, impl.OK)
			}
		}
	}
	jsonOpIs(t, "a set of nothing", said(`{"op":"commit","row":{"a":["set",[]]}}`), impl.Op{}, impl.ErrForm)
	jsonOpIs(t, "an empty column", said(`{"op":"delete","columns":[""]}`), impl.Op{}, impl.ErrForm)
}

func TestValuesThatAreNoOperations(t *testing.T) {
	for _, told := range []string{"null", "1", "true", `"commit"`, "[]", "{}", `["commit"]`, `["op","commit"]`, `[{"op":"commit"}]`, `{"commit":true}`, `{"OP":"commit"}`, `{"op ":"commit"}`, `{"":"commit"}`, `{"table":"t"}`, `{"ok":"commit"}`} {
		jsonOpIs(t, "no operation", said(told), impl.Op{}, impl.ErrForm)
	}
	words := []string{"", " ", "Insert", "insert ", " insert", "inser", "inserts", "INSERT", "op", "transact", "monitor", "lock", "steal", "null", "==", "1", "7", "commi", "committ", "comments", "asserts", "ok", "uuid", strings.Repeat("commit", 30)}
	for _, word := range words {
		jsonOpIs(t, "no word of a kind", fieldsTold{"op": text(word)}.whole(), impl.Op{}, impl.ErrForm)
		jsonOpIs(t, "no word of a kind, and a table", fieldsTold{"op": text(word), "table": text("t")}.whole(), impl.Op{}, impl.ErrForm)
	}
	for kind, word := range kindWords()[1:] {
		jsonOpIs(t, "a word", fieldsTold{"op": text(word)}.whole(), impl.Op{Kind: kind + 1}, impl.OK)
	}
	for _, j := range []impl.Json{null(), number(0), number(1), number(7), truth(true), list(), list(text("commit")), object(nil), object(keys("op"), text("commit")), list(text("set"), list(text("commit")))} {
		jsonOpIs(t, "a kind that is no text", fieldsTold{"op": j}.whole(), impl.Op{}, impl.ErrForm)
	}
}

// Each field with a value of a wrong kind, in an operation that has a use for it.
func TestFieldsOfOtherKinds(t *testing.T) {
	all := map[string]impl.Json{"null": null(), "a number": number(1), "true": truth(true), "false": truth(false), "a text": text("a"), "a list": list(), "an object": object(nil)}
	right := map[string]string{"op": "a text", "table": "a text", "where": "a list", "row": "an object", "mutations": "a list", "columns": "a list", "until": "a text", "uuid-name": "a text", "comment": "a text", "lock": "a text"}
	for _, full := range fullOps() {
		for key := range opFields(full) {
			for kind, j := range all {
				made := opFields(full).with(key, j).whole()
				if kind != right[key] {
					jsonOpIs(t, key+" of "+kind, made, impl.Op{}, impl.ErrForm)
				} else if _, code := impl.JsonOp(made); (code == impl.OK) != (key != "op" && key != "until") {
					t.Errorf("%s of %s: JsonOp(%s) has the code %d", key, kind, brief(made), code)
				}
			}
		}
		if full.Table == "" {
			continue
		}
		for _, j := range []impl.Json{text(""), text(strings.Repeat("t", impl.MaxName+1)), text(strings.Repeat("t", 200)), list(text("t"))} {
			jsonOpIs(t, "no Table", opFields(full).with("table", j).whole(), impl.Op{}, impl.ErrForm)
		}
		for _, name := range []string{"t", " ", "9", "any words", "_uuid", strings.Repeat("t", impl.MaxName), strings.Repeat(" ", impl.MaxName)} {
			named := full
			named.Table = name
			jsonOpIs(t, "a Table", opFields(full).with("table", text(name)).whole(), named, impl.OK)
		}
	}
}

func TestNamesOfOperationsThatAreRead(t *testing.T) {
	for kind, key := range nameKeys() {
		for _, name := range []string{"", "p", "9", " ", "any words", strings.Repeat("n", impl.MaxName), strings.Repeat("~", impl.MaxName)} {
			jsonOpIs(t, "a Name", fieldsTold{"op": text(kindWords()[kind]), key: text(name)}.whole(), impl.Op{Kind: kind, Name: name}, impl.OK)
		}
		for _, name := range []string{strings.Repeat("n", impl.MaxName+1), strings.Repeat("n", 200)} {
			jsonOpIs(t, "a long Name", fieldsTold{"op": text(kindWords()[kind]), key: text(name)}.whole(), impl.Op{}, impl.ErrForm)
		}
	}
}

func TestUntil(t *testing.T) {
	jsonOpIs(t, "until", said(`{"op":"wait","until":"=="}`), impl.Op{Kind: impl.OpWait, Until: true}, impl.OK)
	jsonOpIs(t, "until", said(`{"op":"wait","until":"!="}`), impl.Op{Kind: impl.OpWait}, impl.OK)
	for _, word := range []string{"", "=", "===", "!", "<", "<=", ">", ">=", "==!=", " ==", "== ", "true", "false", "includes"} {
		jsonOpIs(t, "until another text", fieldsTold{"op": text("wait"), "until": text(word)}.whole(), impl.Op{}, impl.ErrForm)
	}
}

// opWithPhrases answers an operation told with conditions or mutations, of which each is of texts, and what is read of it.
func phrasesAre(t *testing.T, what, op, key string, phrases []string, right bool) {
	t.Helper()
	j := fieldsTold{"op": text(op), key: said("[" + strings.Join(phrases, ",") + "]")}.whole()
	o, code := impl.JsonOp(j)
	count := len(o.Where) + len(o.Muts)
	if right && (code != impl.OK || count != len(phrases)) || !right && (code != impl.ErrForm || !alike(o, impl.Op{})) {
		t.Errorf("%s: JsonOp(%s) is %s, %d", what, brief(j), brief(o), code)
	}
}

func TestConditionsAndMutationsThatAreRead(t *testing.T) {
	for _, x := range []struct {
		op, key string
		words   []string
	}{
		{"select", "where", []string{"==", "!=", "<", "<=", ">", ">=", "includes", "excludes"}},
		{"update", "where", []string{"==", "!=", "<", "<=", ">", ">=", "includes", "excludes"}},
		{"mutate", "where", []string{"==", "!=", "<", "<=", ">", ">=", "includes", "excludes"}},
		{"delete", "where", []string{"==", "!=", "<", "<=", ">", ">=", "includes", "excludes"}},
		{"wait", "where", []string{"==", "!=", "<", "<=", ">", ">=", "includes", "excludes"}},
		{"mutate", "mutations", []string{"+=", "-=", "*=", "/=", "%=", "insert", "delete"}},
	} {
		for _, word := range []string{"==", "!=", "<", "<=", ">", ">=", "includes", "excludes", "+=", "-=", "*=", "/=", "%=", "insert", "delete", "", "=", " ==", "== ", "Includes", "include", "Insert", "+", "1", strings.Repeat("=", 100)} {
			phrasesAre(t, "a word", x.op, x.key, []string{`["a","` + word + `",1]`}, slices.Contains(x.words, word))
			phrasesAre(t, "a word behind another one", x.op, x.key, []string{`["a","` + x.words[0] + `",1]`, `["a","` + word + `",1]`}, slices.Contains(x.words, word))
		}
		word := x.words[len(x.words)-1]
		for count := range 14 {
			phrasesAre(t, "how many", x.op, x.key, slices.Repeat([]string{`["a","` + word + `",1]`}, count), count <= 8)
		}
		for phrase, right := range map[string]bool{
			`["a","W",1]`: true, `["","W",1]`: true, `["any words","W",1]`: true, `["_uuid","W",["uuid",1]]`: true, `["` + strings.Repeat("a", 40) + `","W",1]`: true, `["` + strings.Repeat("a", 41) + `","W",1]`: false, `["` + strings.Repeat("a", 200) + `","W",1]`: false,
			`["a","W"]`: false, `["a"]`: false, `[]`: false, `["a","W",1,1]`: false, `["a","W",1,null]`: false, `["W","a",1]`: false, `["a",1,"W"]`: false, `[1,"W",1]`: false, `[null,"W",1]`: false, `[["a"],"W",1]`: false, `["a",1,1]`: false, `["a",null,1]`: false, `["a",["W"],1]`: false, `["a",true,1]`: false,
			`["a","W",null]`: false, `["a","W",{}]`: false, `["a","W",[]]`: false, `["a","W",[1]]`: false, `["a","W",["set",1]]`: false, `["a","W",["set",[]]]`: true, `["a","W",["set",[2,1,2]]]`: true, `["a","W",["set",[1,"a"]]]`: false, `["a","W",["set",[1,2,3,4,5,6,7,8]]]`: true, `["a","W",["set",[1,2,3,4,5,6,7,8,9]]]`: false, `["a","W",["uuid",0]]`: false,
			`["a","W",["named-uuid","p"]]`: false, `["a","W",["set",[["named-uuid","p"]]]]`: false, `["a","W",["set",[["uuid",1],["named-uuid","p"]]]]`: false, `["a","W",true]`: true, `["a","W","x"]`: true, `"a"`: false, `null`: false, `1`: false, `{}`: false, `{"a":1}`: false, `"W"`: false, `{"a":"a","b":"W","c":1}`: false, `[["a","W",1]]`: false,
		} {
			one := strings.ReplaceAll(phrase, "W", word)
			phrasesAre(t, "a phrase", x.op, x.key, []string{one}, right)
			phrasesAre(t, "a phrase behind another one", x.op, x.key, []string{`["a","` + word + `",1]`, one}, right)
			phrasesAre(t, "a phrase ahead of another one", x.op, x.key, []string{one, `["a","` + word + `",1]`}, right)
		}
	}
}

// What a column's value, as a text, says: a set of it and whether it is one.
func TestRowsOfOperationsThatAreRead(t *testing.T) {
	eight := `["named-uuid","a"],["named-uuid","b"],["named-uuid","c"],["named-uuid","d"],["named-uuid","e"],["named-uuid","f"],["named-uuid","g"],["named-uuid","h"]`
	right := map[string]impl.Set{
		"1": set("", intAtom(1)), `"x"`: set("", textAtom("x")), "true": set("", boolAtom(1)), `["uuid",5]`: set("", idAtom(5)), `["set",[]]`: set(""), `["set",[2,1,2]]`: set("", ints(1, 3)...), `["set",[1,2,3,4,5,6,7,8]]`: set("", ints(1, 9)...),
		`["named-uuid","p"]`: naming("", "p"), `["set",[["named-uuid","p"]]]`: naming("", "p"), `["set",[["named-uuid","q"],["named-uuid","p"],["named-uuid","q"]]]`: naming("", "q", "p", "q"), `["set",["named-uuid","p"]]`: set("", textAtom("named-uuid"), textAtom("p")),
		`["set",[` + eight + `]]`: naming("", "a", "b", "c", "d", "e", "f", "g", "h"), `["named-uuid","` + strings.Repeat("p", 40) + `"]`: naming("", strings.Repeat("p", 40)), `["named-uuid","_uuid"]`: naming("", "_uuid"), `["named-uuid","set"]`: naming("", "set"),
	}
	wrong := []string{
		"null", "{}", "[]", `{"a":1}`, `[1]`, `["a"]`, `["named-uuid"]`, `["named-uuid",1]`, `["named-uuid",null]`, `["named-uuid",true]`, `["named-uuid",["p"]]`, `["named-uuid",["named-uuid","p"]]`, `["named-uuid",""]`, `["named-uuid","9"]`, `["named-uuid","a b"]`, `["named-uuid","` + strings.Repeat("p", 41) + `"]`, `["named-uuid","p","q"]`, `["p","named-uuid"]`, `["named_uuid","p"]`, `["Named-uuid","p"]`, `["uuid","p"]`,
		`["set",[["named-uuid","p"],["uuid",1]]]`, `["set",[["uuid",1],["named-uuid","p"]]]`, `["set",[["named-uuid","p"],1]]`, `["set",["x",["named-uuid","p"]]]`, `["set",[["named-uuid","p"],null]]`, `["set",[["named-uuid","p"],["named-uuid","9"]]]`, `["set",[["named-uuid",""]]]`, `["set",[["named-uuid","p"],["set",[]]]]`, `["set",[["set",[["named-uuid","p"]]]]]`,
		`["set",[` + eight + `,["named-uuid","i"]]]`, `["set",[` + eight + `,["named-uuid","a"]]]`, `["set",[1,2,3,4,5,6,7,8,9]]`, `["set",[1,"a"]]`, `["set",[null]]`, `["set",1]`, `["set"]`, `["set",[1],2]`, `["uuid",0]`, `["uuid",1000001]`,
	}
	for _, kind := range []int{impl.OpInsert, impl.OpUpdate, impl.OpWait} {
		begun := fieldsTold{"op": text(kindWords()[kind])}
		reads := func(what string, row fieldsTold, want []impl.Set, code int) {
			o := impl.Op{Kind: kind, Row: want}
			if code != impl.OK {
				o = impl.Op{}
			}
			jsonOpIs(t, what, begun.with("row", row.whole()).whole(), o, code)
		}
		for told, x := range right {
			for _, column := range []string{"", "a", "_uuid", "9", "any words", strings.Repeat("a", 40)} {
				x.Column = column
				reads("a set", fieldsTold{column: said(told)}, sets(x), impl.OK)
				reads("a set ahead of another one", fieldsTold{column: said(told), "~": number(1)}, sets(x, set("~", intAtom(1))), impl.OK)
				if column != "" {
					reads("a set behind another one", fieldsTold{"": number(1), column: said(told)}, sets(set("", intAtom(1)), x), impl.OK)
				}
			}
			for _, column := range []string{strings.Repeat("a", 41), strings.Repeat("a", 200)} {
				reads("a long column", fieldsTold{column: said(told)}, nil, impl.ErrForm)
			}
		}
		for _, told := range wrong {
			reads("no set", fieldsTold{"a": said(told)}, nil, impl.ErrForm)
			reads("no set behind another one", fieldsTold{"a": number(1), "b": said(told)}, nil, impl.ErrForm)
			reads("no set ahead of another one", fieldsTold{"a": said(told), "b": number(1)}, nil, impl.ErrForm)
		}
		for count := range 12 {
			row, want, code := fieldsTold{}, sets(), impl.OK
			for i := range count {
				column := fmt.Sprintf("c%02d", i)
				row[column] = nameSaid("p")
				want = append(want, naming(column, "p"))
			}
			if count > 6 {
				code = impl.ErrForm
			}
			reads("some columns", row, want, code)
		}
	}
}

func TestColumnsThatAreRead(t *testing.T) {
	for count := range 12 {
		code := impl.OK
		if count > 6 {
			code = impl.ErrForm
		}
		for _, some := range [][]string{slices.Repeat(columnsOf("a"), count), columnsOf("l", "k", "j", "i", "h", "g", "f", "e", "d", "c", "b", "a")[:count]} {
			o, m := selectOp("", nil, some...), impl.Monitor{Name: "m", Table: "t", Columns: some, Initial: true, Insert: true, Delete: true, Modify: true}
			if code != impl.OK {
				o, m = impl.Op{}, impl.Monitor{}
			}
			jsonOpIs(t, "some columns", fieldsTold{"op": text("select"), "columns": textsSaid(some)}.whole(), o, code)
			jsonMonitorIs(t, "some columns", "m", fieldsTold{"table": text("t"), "columns": textsSaid(some)}.whole(), m, code)
		}
	}
	for told, right := range map[string]bool{`["a"]`: true, `["a","_uuid"]`: true, `[""]`: true, `["any words"]`: true, `["` + strings.Repeat("a", 40) + `"]`: true, `["` + strings.Repeat("a", 41) + `"]`: false, `[1]`: false, `["a",1]`: false, `[null]`: false, `[["a"]]`: false, `[true]`: false, `[{}]`: false, `[1,"a"]`: false, `"a"`: false, `{"a":"b"}`: false, `["set",["a"]]`: false} {
		_, code := impl.JsonOp(fieldsTold{"op": text("select"), "columns": said(told)}.whole())
		_, monitorCode := impl.JsonMonitor("m", fieldsTold{"table": text("t"), "columns": said(told)}.whole())
		if want := map[bool]int{true: impl.OK, false: impl.ErrForm}[right]; code != want || monitorCode != want {
			t.Errorf("columns %s: %d, %d", told, code, monitorCode)
		}
	}
}

// monitorFields answers the fields that tell a monitor, all of them.
func monitorFields(m impl.Monitor) fieldsTold {
	return fieldsTold{"table": text(m.Table), "columns": textsSaid(m.Columns), "where": condsSaid(m.Where), "initial": truth(m.Initial), "insert": truth(m.Insert), "delete": truth(m.Delete), "modify": truth(m.Modify)}
}

// Each of the bools told true, told false and not told; with and without the lists.
func TestMonitorsByTheirFields(t *testing.T) {
	for n := range 3 * 3 * 3 * 3 {
		for _, bare := range []bool{true, false} {
			m := impl.Monitor{Name: "m", Table: "t", Columns: columnsOf("b", "a", "b"), Where: conds(cond("a", impl.CoLe, intAtom(4)), cond("b", impl.CoExcludes)), Initial: true, Insert: true, Delete: true, Modify: true}
			f := monitorFields(m)
			if bare {
				m.Columns, m.Where = nil, nil
				f = f.without("columns").without("where")
			}
			left := n
			for key, is := range map[string]*bool{"initial": &m.Initial, "insert": &m.Insert, "delete": &m.Delete, "modify": &m.Modify} {
				switch left % 3 {
				case 0:
					f = f.without(key)
				case 1:
					f, *is = f.with(key, truth(false)), false
				}
				left /= 3
			}
			jsonMonitorIs(t, "some fields", "m", f.whole(), m, impl.OK)
		}
	}
	m := impl.Monitor{Name: "m", Table: "t", Initial: true, Insert: true, Delete: true, Modify: true}
	jsonMonitorIs(t, "empty lists", "m", said(`{"columns":[],"table":"t","where":[]}`), m, impl.OK)
	for _, key := range []string{"initial", "insert", "delete", "modify"} {
		for _, j := range []impl.Json{null(), number(0), number(1), text(""), text("true"), list(), list(truth(true)), object(nil)} {
			jsonMonitorIs(t, "no bool", "m", monitorFields(m).with(key, j).whole(), impl.Monitor{}, impl.ErrForm)
		}
	}
}

func TestValuesThatAreNoMonitors(t *testing.T) {
	for _, told := range []string{
		"null", "1", "true", `"t"`, "[]", "{}", `["t"]`, `["table","t"]`, `[{"table":"t"}]`, `{"Table":"t"}`, `{"":"t"}`, `{"columns":[]}`, `{"insert":true}`, `{"table":""}`, `{"table":1}`, `{"table":null}`, `{"table":true}`, `{"table":["t"]}`, `{"table":{}}`, `{"table":"` + strings.Repeat("t", 41) + `"}`,
		`{"table":"t","columns":1}`, `{"table":"t","columns":null}`, `{"table":"t","columns":{}}`, `{"table":"t","columns":"a"}`, `{"table":"t","where":1}`, `{"table":"t","where":null}`, `{"table":"t","where":{}}`, `{"table":"t","where":["a","==",1]}`, `{"table":"t","where":[["a","+=",1]]}`, `{"table":"t","where":[["a","==",["named-uuid","p"]]]}`, `{"table":"t","where":[["a","=="]]}`, `{"table":"t","where":[["` + strings.Repeat("a", 41) + `","==",1]]}`,
	} {
		jsonMonitorIs(t, "no monitor", "m", said(told), impl.Monitor{}, impl.ErrForm)
	}
	for _, key := range []string{"", "x", "Table", "tables", "name", "op", "row", "mutations", "until", "lock", "comment", "uuid-name", "Insert", "inserts", "update", "initial ", "~"} {
		for _, j := range []impl.Json{null(), truth(true), truth(false), text(""), text("m"), list(), object(nil)} {
			jsonMonitorIs(t, "a field more", "m", fieldsTold{"table": text("t"), key: j}.whole(), impl.Monitor{}, impl.ErrForm)
			jsonMonitorIs(t, "a field beside all", "m", monitorFields(impl.Monitor{Table: "t"}).with(key, j).whole(), impl.Monitor{}, impl.ErrForm)
		}
	}
	for count := range 14 {
		code, m := impl.OK, impl.Monitor{Name: "m", Table: "t", Where: slices.Repeat(conds(cond("a", impl.CoNe, idAtom(3))), count)}
		j := monitorFields(m).whole()
		if count > 8 {
			code, m = impl.ErrForm, impl.Monitor{}
		}
		jsonMonitorIs(t, "some conditions", "m", j, m, code)
	}
	for _, name := range []string{"t", " ", "9", "any words", "_uuid", strings.Repeat("t", 40), strings.Repeat("~", 40)} {
		m := impl.Monitor{Name: "m", Table: name}
		jsonMonitorIs(t, "a Table", "m", monitorFields(m).whole(), m, impl.OK)
	}
}

func TestNamesOfMonitorsThatAreRead(t *testing.T) {
	names := edgeNames()
	names[strings.Repeat("a", impl.MaxText)], names[strings.Repeat("a", 2*impl.MaxText)] = false, false
	for name, right := range names {
		m, code := impl.Monitor{Name: name, Table: "t", Initial: true, Insert: true, Delete: true, Modify: true}, impl.OK
		if !right {
			m, code = impl.Monitor{}, impl.ErrForm
		}
		if len(name) > impl.MaxText {
			code = impl.ErrLong
			jsonMonitorIs(t, "a long name of no monitor", name, null(), m, code)
			jsonMonitorIs(t, "a long name and no right value", name, impl.Json{Kind: 9}, m, code)
		} else {
			jsonMonitorIs(t, "a name of no monitor", name, null(), impl.Monitor{}, impl.ErrForm)
			jsonMonitorIs(t, "a name and no right value", name, impl.Json{Kind: 9}, impl.Monitor{}, impl.ErrBad)
		}
		jsonMonitorIs(t, "a name", name, said(`{"table":"t"}`), m, code)
	}
}

// As many parts as there may be, and as long ones.
func TestTheGreatestOperations(t *testing.T) {
	long := strings.Repeat("n", impl.MaxName)
	where := slices.Repeat(conds(cond(long, impl.CoIncludes, ids(1, 2, 3, 4, 5)...)), 8)
	for _, o := range ops(
		insertOp(long, long, naming(long[:1], slices.Repeat([]string{long}, 8)...), naming(long[:2], long), naming(long[:3], long), set(long[:4], ints(0, 8)...), naming(long[:5], long), naming(long, slices.Repeat([]string{long}, 8)...)),
		selectOp(long, where, slices.Repeat([]string{long}, 6)...), updateOp(long, where[:4], naming(long, slices.Repeat([]string{long}, 8)...)),
		mutateOp(long, slices.Repeat(conds(cond(long, impl.CoIncludes, ints(0, 8)...)), 8), slices.Repeat(muts(mut(long, impl.MuInsert, ints(0, 8)...)), 8)...),
		commentOp(long), assertOp(long)) {
		jsonOpIs(t, "a great one", opFields(o).whole(), o, impl.OK)
	}
}
