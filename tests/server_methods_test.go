package tests

import (
	"fmt"
	"math"
	"strings"
	"testing"

	"loop.example/g00524/impl"
)

// stays tells that what a session asks for is refused, and changes nothing but what waits for it.
func (x *served) stays(i int, method, params string, want int) {
	x.Helper()
	was := serverAgain(x.v)
	x.refused(i, method, params, want)
	if was.Sessions[i].Out = nil; !alike(x.v, was) {
		x.Errorf("%s with %s is refused, and makes %s of %s", method, params, brief(x.v), brief(was))
	}
}

// quiet answers a full server under test, of which nothing has come and nothing waits.
func quiet(t *testing.T) *served {
	x := &served{t, fullServer()}
	for i := range x.v.Sessions {
		x.v.Sessions[i].Framer, x.v.Sessions[i].Out = impl.Framer{}, nil
	}
	return x
}

func TestMethodsThatTakeAnyParameters(t *testing.T) {
	x := serverOf(t, 0)
	for _, params := range []string{"[]", "[null]", "[1]", `["a"]`, "[[],{}]", `[{"b":[1,true]},"\"\\",-7]`, "[[[[[[[[[[]]]]]]]]]]"} {
		x.answered(0, "echo", params, params)
		x.answered(0, "list_dbs", params, `["net"]`)
		x.answered(0, "get_schema", params, `["note","port","switch"]`)
	}
	x.answered(0, "echo", `[ {"b" : 2,"a":"\/"} , 1 ]`, `[{"a":"/","b":2},1]`)
}

// The tables' names are told of the schema that is there, in its order.
func TestSchemasThatAreTold(t *testing.T) {
	for _, names := range [][]string{{"t"}, {"B", "_", "a", "b"}, {"a", "b"}} {
		v, _ := impl.NewServer(schema(someTables(names...)...))
		x := &served{t, v}
		x.opens(1)
		x.answered(1, "get_schema", "[]", `["`+strings.Join(names, `","`)+`"]`)
	}
}

func TestMethodsThatAreNone(t *testing.T) {
	x := serverOf(t, 0)
	for _, method := range []string{"", "Echo", "echo ", " echo", "ech", "echoes", "list-dbs", "getschema", "Transact", "update", "locked", "stolen", "insert", "monitor_", "monitor-cancel", "cancel", "null", "9", `"`, strings.Repeat("m", 200)} {
		for _, params := range []string{"[]", `["a"]`, `["m",{"table":"port"}]`, "[1]"} {
			x.stays(0, method, params, impl.ErrMethod)
		}
	}
}

// Parameters other than those told are ErrForm, also where another code would be due of those told.
func TestParametersOfMethods(t *testing.T) {
	x := quiet(t)
	x.opens(2)
	for i := range 3 {
		for _, method := range []string{"monitor_cancel", "lock", "steal", "unlock"} {
			for _, params := range []string{"[]", "[1]", "[null]", "[true]", "[0]", `[["a"]]`, "[[]]", "[{}]", `[{"a":"a"}]`, `["a","a"]`, `["a",null]`, `["a","b","c"]`, `[1,"a"]`, `[""]`, `["9"]`, `["a b"]`, `["a-"]`, `["` + strings.Repeat("a", 41) + `"]`, `["` + strings.Repeat("a", 200) + `"]`} {
				x.stays(i, method, params, impl.ErrForm)
			}
		}
		for _, params := range []string{"[]", `["n"]`, `[{"table":"port"}]`, `["n",{"table":"port"},1]`, `["n",{"table":"port"},{"table":"port"}]`, `[{"table":"port"},"n"]`,
			`[1,{"table":"port"}]`, `[null,{"table":"port"}]`, `[["n"],{"table":"port"}]`, `[{},{"table":"port"}]`, `["9",{"table":"port"}]`, `["",{"table":"port"}]`, `["` + strings.Repeat("n", 41) + `",{"table":"port"}]`,
			`["n",1]`, `["n",null]`, `["n","port"]`, `["n",["port"]]`, `["n",[{"table":"port"}]]`, `["n",{}]`, `["n",{"columns":[]}]`, `["n",{"table":""}]`, `["n",{"table":1}]`, `["n",{"table":"port","x":1}]`, `["n",{"table":"port","columns":"name"}]`,
			`["n",{"table":"port","columns":["a","a","a","a","a","a","a"]}]`, `["n",{"table":"port","where":[["tag","~",1]]}]`, `["n",{"table":"port","initial":1}]`, `["n",{"table":"port","modify":null}]`, `["m",{}]`, `["m",{"table":"zz"},1]`} {
			x.stays(i, "monitor", params, impl.ErrForm)
		}
	}
}

// noOperations are right values that are no operations.
func noOperations() []string {
	return []string{"null", "1", "true", `"commit"`, "[]", `["op","commit"]`, "{}", `{"op":"x"}`, `{"op":1}`, `{"op":"insert","table":""}`, `{"op":"commit","table":"port"}`, `{"op":"select","table":"port","x":1}`, `{"op":"delete","table":"port","where":[["name","~","p"]]}`, `{"op":"update","table":"port","row":{"name":["named-uuid","9"]}}`}
}

// How many operations there are is looked at ahead of what they are.
func TestOperationsOfARequest(t *testing.T) {
	x := quiet(t)
	commit := `{"op":"commit"}`
	for count := range 12 {
		params := "[" + strings.TrimSuffix(strings.Repeat(commit+",", count), ",") + "]"
		if count > 8 {
			x.stays(0, "transact", params, impl.ErrMany)
			continue
		}
		x.answered(0, "transact", params, "["+strings.TrimSuffix(strings.Repeat("{},", count), ",")+"]")
	}
	for _, wrong := range noOperations() {
		for place := range 8 {
			params := "[" + strings.Repeat(commit+",", place) + wrong + strings.Repeat(","+commit, 7-place) + "]"
			x.stays(0, "transact", params, impl.ErrForm)
			x.stays(0, "transact", params[:len(params)-1]+","+commit+"]", impl.ErrMany)
		}
		x.stays(0, "transact", `[{"op":"insert","table":"note"},`+wrong+"]", impl.ErrForm)
		x.stays(0, "transact", `[{"op":"abort"},`+wrong+"]", impl.ErrForm)
	}
}

// A store that has not as many numbers left as there are operations is ErrFull, whatever they are.
func TestNumbersThatAreLeft(t *testing.T) {
	for left := range 10 {
		x := serverOf(t, 0)
		x.v.Store.Next = 1000000 - left
		for count := 9; count > 0; count-- {
			params := "[" + strings.TrimSuffix(strings.Repeat(`{"op":"insert","table":"note"},`, count), ",") + "]"
			switch {
			case count > 8:
				x.stays(0, "transact", params, impl.ErrMany)
			case count > left:
				x.stays(0, "transact", params, impl.ErrFull)
				x.stays(0, "transact", strings.ReplaceAll(params, `"insert","table":"note"`, `"abort"`), impl.ErrFull)
				x.stays(0, "transact", strings.Replace(params, `"insert"`, `"none"`, 1), impl.ErrForm)
			}
		}
		if left > 0 {
			x.answered(0, "transact", `[{"op":"insert","table":"note"}]`, fmt.Sprintf(`[{"uuid":["uuid",%d]}]`, 1000000-left))
		}
		x.answered(0, "transact", "[]", "[]")
	}
}

// What operations of each kind come to is told by their kinds, and the store is what they make.
func TestResultsOfTransactions(t *testing.T) {
	x := serverOf(t, 1)
	x.answered(1, "transact", `[{"op":"insert","table":"port","uuid-name":"p","row":{"name":"p","tag":7}},{"op":"insert","table":"switch","row":{"name":"s","ports":["set",[["named-uuid","p"]]]}},{"op":"comment","comment":"two rows"},{"op":"commit"}]`,
		`[{"uuid":["uuid",1]},{"uuid":["uuid",2]},{},{}]`)
	x.answered(1, "transact", `[{"op":"mutate","table":"switch","mutations":[["count","+=",9]]},{"op":"update","table":"port","row":{"up":true}},{"op":"wait","table":"switch","until":"==","row":{"count":9}},{"op":"select","table":"port"},{"op":"select","table":"switch","columns":["ports","_uuid"]},{"op":"delete","table":"note"}]`,
		`[{"count":1},{"count":1},{},{"rows":[{"name":"p","tag":7,"up":true}]},{"rows":[{"_uuid":["uuid",2],"ports":["uuid",1]}]},{"count":0}]`)
	want := store(3, nil, rows(row(1, word("p"), ints(7, 8), atoms(boolAtom(1)))), rows(row(2, word("s"), ints(9, 10), ids(1))))
	if !alike(x.v.Store, want) {
		t.Errorf("the store is %s", brief(x.v.Store))
	}
	x.answered(1, "transact", `[{"op":"delete","table":"switch"}]`, `[{"count":1}]`)
	if !alike(x.v.Store, store(3, nil, nil, nil)) {
		t.Errorf("the store is %s", brief(x.v.Store))
	}
}

// A transaction that fails, wherever, is answered up to what it fails of, leaves all as it was, and nobody is told.
func TestTransactionsThatFail(t *testing.T) {
	x := serverOf(t, 0, 1)
	x.asks(0, "transact", `[{"op":"insert","table":"port","uuid-name":"p","row":{"name":"p"}},{"op":"insert","table":"switch","row":{"name":"s","ports":["named-uuid","p"]}}]`)
	for i := range 2 {
		for _, table := range []string{"note", "port", "switch"} {
			x.asks(i, "monitor", fmt.Sprintf(`["%s",{"table":"%s"}]`, table, table))
		}
		x.v.Sessions[i].Out = nil
	}
	ahead := `{"op":"insert","table":"note"},{"op":"update","table":"port","row":{"up":true}}`
	told := `{"uuid":["uuid",3]},{"count":1}`
	for operation, word := range map[string]string{
		`{"op":"abort"}`:                                                           "abort",
		`{"op":"assert","lock":"l"}`:                                               "owner",
		`{"op":"assert","lock":"9"}`:                                               "form",
		`{"op":"select","table":"zz"}`:                                             "table",
		`{"op":"select","table":"port","columns":["zz"]}`:                          "column",
		`{"op":"delete","table":"port","where":[["tag","==","x"]]}`:                "type",
		`{"op":"mutate","table":"switch","mutations":[["count","/=",0]]}`:          "range",
		`{"op":"update","table":"port","row":{"name":["set",["a","b"]]}}`:          "many",
		`{"op":"wait","table":"port","until":"!="}`:                                "wait",
		`{"op":"insert","table":"switch","row":{"ports":["named-uuid","nobody"]}}`: "ref",
	} {
		for _, behind := range []string{"", `,{"op":"commit"}`, `,{"op":"abort"},{"op":"delete","table":"note"}`} {
			was := serverAgain(x.v)
			x.answered(0, "transact", "["+ahead+","+operation+behind+"]", "["+told+`,{"error":"`+word+`"}]`)
			x.hears(1)
			if !alike(x.v, was) {
				t.Errorf("%s fails, and makes %s of %s", operation, brief(x.v), brief(was))
			}
		}
	}
	for operation, told := range map[string]string{
		`{"op":"insert","table":"switch","row":{"name":"s"}}`:                    `{"uuid":["uuid",4]},{"error":"unique"}`,
		`{"op":"delete","table":"port"}`:                                         `{"count":1},{"error":"ref"}`,
		`{"op":"insert","table":"switch","row":{"name":"t","ports":["uuid",9]}}`: `{"uuid":["uuid",4]},{"error":"ref"}`,
	} {
		was := serverAgain(x.v)
		x.answered(0, "transact", "["+ahead+","+operation+"]", `[{"uuid":["uuid",3]},{"count":1},`+told+"]")
		x.hears(1)
		if !alike(x.v, was) {
			t.Errorf("%s fails at the end, and makes %s of %s", operation, brief(x.v), brief(was))
		}
	}
	failing := "[" + strings.Repeat(`{"op":"insert","table":"switch"},`, 7) + `{"op":"commit"}]`
	x.answered(1, "transact", failing, `[{"uuid":["uuid",3]},{"uuid":["uuid",4]},{"uuid":["uuid",5]},{"uuid":["uuid",6]},{"uuid":["uuid",7]},{"uuid":["uuid",8]},{"uuid":["uuid",9]},{},{"error":"unique"}]`)
}

// Monitors of all sessions are told in order, each what it sees, the session's own ahead of its reply.
func TestWhoIsToldOfATransaction(t *testing.T) {
	x := serverOf(t, 0, 1, 2)
	for i, told := range []string{`["b",{"table":"note","columns":["name"]}] ["a",{"table":"switch","columns":["count"]}] ["c",{"table":"port","insert":false}]`, `["z",{"table":"switch","columns":["name","count"],"where":[["count",">",2]]}]`, `["b",{"table":"port","columns":["tag","name"]}] ["a",{"table":"switch","modify":false}]`} {
		for _, params := range strings.Split(told, " ") {
			x.answered(i, "monitor", params, "[]")
		}
	}
	x.asks(2, "transact", `[{"op":"insert","table":"switch","row":{"name":"s","ports":["named-uuid","p"]}},{"op":"insert","table":"port","uuid-name":"p","row":{"name":"p"}},{"op":"insert","table":"note","row":{"name":"n"}}]`)
	x.hears(0, notice("update", `["b",[{"new":{"name":"n"},"old":null,"uuid":3}]]`), notice("update", `["a",[{"new":{"count":0},"old":null,"uuid":1}]]`))
	x.hears(1)
	x.hears(2, notice("update", `["b",[{"new":{"name":"p","tag":["set",[]]},"old":null,"uuid":2}]]`), notice("update", `["a",[{"new":{},"old":null,"uuid":1}]]`), replyTo(1, `[{"uuid":["uuid",1]},{"uuid":["uuid",2]},{"uuid":["uuid",3]}]`))
	x.asks(1, "transact", `[{"op":"update","table":"switch","row":{"count":3}},{"op":"insert","table":"switch","row":{"count":9,"name":"u"}},{"op":"update","table":"port","row":{"up":true}},{"op":"insert","table":"note"},{"op":"insert","table":"note"}]`)
	x.hears(0, notice("update", `["b",[{"new":{"name":""},"old":null,"uuid":5},{"new":{"name":""},"old":null,"uuid":6}]]`), notice("update", `["a",[{"new":{"count":3},"old":{"count":0},"uuid":1},{"new":{"count":9},"old":null,"uuid":4}]]`))
	x.hears(1, notice("update", `["z",[{"new":{"count":3,"name":"s"},"old":null,"uuid":1},{"new":{"count":9,"name":"u"},"old":null,"uuid":4}]]`), replyTo(1, `[{"count":1},{"uuid":["uuid",4]},{"count":1},{"uuid":["uuid",5]},{"uuid":["uuid",6]}]`))
	x.hears(2, notice("update", `["a",[{"new":{},"old":null,"uuid":4}]]`))
	x.asks(0, "transact", `[{"op":"delete","table":"switch","where":[["name","==","s"]]},{"op":"mutate","table":"switch","mutations":[["count","-=",9]]}]`)
	x.hears(0, notice("update", `["a",[{"new":null,"old":{"count":3},"uuid":1},{"new":{"count":0},"old":{"count":9},"uuid":4}]]`), notice("update", `["c",[{"new":null,"old":{},"uuid":2}]]`), replyTo(1, `[{"count":1},{"count":1}]`))
	x.hears(1, notice("update", `["z",[{"new":null,"old":{"count":3,"name":"s"},"uuid":1},{"new":null,"old":{"count":9,"name":"u"},"uuid":4}]]`))
	x.hears(2, notice("update", `["b",[{"new":null,"old":{"name":"p","tag":["set",[]]},"uuid":2}]]`), notice("update", `["a",[{"new":null,"old":{},"uuid":1}]]`))
	x.answered(0, "transact", `[{"op":"mutate","table":"switch","mutations":[["count","+=",0]]},{"op":"select","table":"note","columns":["name"]}]`, `[{"count":1},{"rows":[{"name":"n"},{"name":""},{"name":""}]}]`)
	x.hears(1)
	x.hears(2)
}

// A monitor with Initial is answered what it sees, one without nothing; both are told of what comes.
func TestMonitorsWithInitialAndWithout(t *testing.T) {
	x := &served{t, fullServer()}
	for _, i := range []int{1, 0} {
		x.closes(i)
		x.opens(i)
	}
	x.answered(0, "monitor", `["m",{"table":"port"}]`, `[{"new":{},"old":null,"uuid":2},{"new":{},"old":null,"uuid":7}]`)
	x.answered(0, "monitor", `["n",{"table":"note","columns":["about","name","about"],"initial":true}]`, `[{"new":{"about":["set",[["uuid",2],["uuid",7]]],"name":"n"},"old":null,"uuid":5},{"new":{"about":["set",[]],"name":"n"},"old":null,"uuid":9}]`)
	x.answered(0, "monitor", `["o",{"table":"switch","columns":["name"],"where":[["ports","includes",["uuid",7]]]}]`, `[{"new":{"name":"t"},"old":null,"uuid":8}]`)
	x.answered(1, "monitor", `["m",{"table":"switch","columns":["name"],"initial":false}]`, "[]")
	x.answered(1, "monitor", `["n",{"table":"switch","columns":["name"],"where":[["count",">",0]]}]`, "[]")
	x.answered(1, "monitor", `["o",{"table":"switch","insert":false,"delete":false,"modify":false}]`, `[{"new":{},"old":null,"uuid":3},{"new":{},"old":null,"uuid":8}]`)
	want := impl.Monitor{Name: "n", Table: "switch", Columns: columnsOf("name"), Where: conds(cond("count", impl.CoGt, intAtom(0))), Initial: true, Insert: true, Delete: true, Modify: true}
	if m := x.v.Sessions[1].Monitors; len(m) != 3 || !alike(m[1], want) {
		t.Errorf("the monitors are %s", brief(m))
	}
	x.asks(0, "transact", `[{"op":"update","table":"switch","row":{"name":"u"},"where":[["name","==","t"]]}]`)
	x.hears(0, notice("update", `["o",[{"new":{"name":"u"},"old":{"name":"t"},"uuid":8}]]`), replyTo(1, `[{"count":1}]`))
	x.hears(1, notice("update", `["m",[{"new":{"name":"u"},"old":{"name":"t"},"uuid":8}]]`))
}

// What hinders a monitor in the schema is told ahead of a name that is there, that ahead of how many there are.
func TestMonitorsThatAreRefused(t *testing.T) {
	x := serverOf(t, 0, 1)
	right, beside := `{"table":"port","columns":["name"],"initial":false}`, map[string]int{
		`{"table":"zz"}`: impl.ErrTable, `{"table":"zz","columns":["zz"]}`: impl.ErrTable, `{"table":"port","columns":["name","count"]}`: impl.ErrColumn, `{"table":"port","columns":["_uuid"]}`: impl.ErrColumn,
		`{"table":"port","where":[["count","==",1]]}`: impl.ErrColumn, `{"table":"port","where":[["tag","==","x"]]}`: impl.ErrType, `{"table":"port","where":[["name","<","x"]]}`: impl.ErrType, `{"table":"port","columns":["zz"],"where":[["tag","==","x"]]}`: impl.ErrColumn,
	}
	for count, name := range []string{"b", "a", "c"} {
		for wrong, code := range beside {
			x.stays(0, "monitor", `["n",`+wrong+"]", code)
			x.stays(0, "monitor", `["b",`+wrong+"]", code)
		}
		if count > 0 {
			x.stays(0, "monitor", `["b",`+right+"]", impl.ErrTwice)
		}
		x.answered(0, "monitor", `["`+name+`",`+right+"]", "[]")
		x.stays(0, "monitor", `["`+name+`",`+right+"]", impl.ErrTwice)
	}
	for wrong, code := range beside {
		x.stays(0, "monitor", `["n",`+wrong+"]", code)
		x.stays(0, "monitor", `["c",`+wrong+"]", code)
	}
	x.stays(0, "monitor", `["n",`+right+"]", impl.ErrMany)
	x.stays(0, "monitor", `["a",`+right+"]", impl.ErrTwice)
	x.stays(0, "monitor", `["n",{"table":""}]`, impl.ErrForm)
	x.answered(1, "monitor", `["a",`+right+"]", "[]")
	if m := x.v.Sessions[0].Monitors; len(m) != 3 || m[0].Name != "b" || m[1].Name != "a" || m[2].Name != "c" {
		t.Errorf("the monitors are %s", brief(m))
	}
}

// A monitor that is cancelled is there no more; others stay in their order, and those of other sessions.
func TestCancelledMonitors(t *testing.T) {
	for place, name := range []string{"m", "a", "z"} {
		x := quiet(t)
		x.stays(0, "monitor_cancel", `["none"]`, impl.ErrNone)
		x.stays(1, "monitor_cancel", `["z"]`, impl.ErrNone)
		was := serverAgain(x.v)
		x.answered(0, "monitor_cancel", `["`+name+`"]`, "{}")
		left := was.Sessions[0].Monitors
		was.Sessions[0].Monitors = append(append([]impl.Monitor{}, left[:place]...), left[place+1:]...)
		if !alike(x.v, was) {
			t.Errorf("%s is cancelled, and there are %s", name, brief(x.v.Sessions))
		}
		x.stays(0, "monitor_cancel", `["`+name+`"]`, impl.ErrNone)
		x.answered(0, "monitor", `["`+name+`",{"table":"note","initial":false}]`, "[]")
		if m := x.v.Sessions[0].Monitors; len(m) != 3 || m[2].Name != name {
			t.Errorf("the monitors are %s", brief(m))
		}
	}
}

// A lock is taken by who is first, others wait; it is stolen, and left by its owner, by who waits and by who does neither.
func TestLocksOfSessions(t *testing.T) {
	x := serverOf(t, 0, 1, 2)
	x.answered(1, "lock", `["l"]`, `{"locked":true}`)
	x.stays(1, "lock", `["l"]`, impl.ErrTwice)
	x.answered(0, "lock", `["l"]`, `{"locked":false}`)
	x.stays(0, "lock", `["l"]`, impl.ErrTwice)
	x.stays(2, "unlock", `["l"]`, impl.ErrNone)
	x.stays(1, "unlock", `["k"]`, impl.ErrNone)
	x.answered(2, "steal", `["l"]`, `{"locked":true}`)
	x.hears(1, notice("stolen", `["l"]`))
	x.hears(0)
	x.haveLocks(lock("l", 2, 1, 0))
	x.answered(2, "steal", `["l"]`, `{"locked":true}`)
	x.answered(0, "steal", `["l"]`, `{"locked":true}`)
	x.hears(2, notice("stolen", `["l"]`))
	x.hears(1)
	x.haveLocks(lock("l", 0, 2, 1))
	x.answered(2, "unlock", `["l"]`, "{}")
	x.hears(0)
	x.hears(1)
	x.answered(0, "unlock", `["l"]`, "{}")
	x.hears(1, notice("locked", `["l"]`))
	x.hears(2)
	x.answered(2, "steal", `["a"]`, `{"locked":true}`)
	x.haveLocks(lock("a", 2), lock("l", 1))
	x.answered(1, "unlock", `["l"]`, "{}")
	x.haveLocks(lock("a", 2))
	for _, i := range []int{0, 1} {
		x.hears(i)
	}
}

// A new lock beside MaxLocks is ErrFull; one that is there can be taken and stolen.
func TestLocksThatAreFull(t *testing.T) {
	x := serverOf(t, 0, 1)
	for k := range 6 {
		x.answered(0, "lock", fmt.Sprintf(`["m%05d"]`, k), `{"locked":true}`)
	}
	x.stays(0, "lock", `["n"]`, impl.ErrFull)
	x.stays(1, "steal", `["n"]`, impl.ErrFull)
	x.stays(1, "unlock", `["n"]`, impl.ErrNone)
	x.haveLocks(manyLocks(6, 0)...)
	x.answered(1, "lock", `["m00005"]`, `{"locked":false}`)
	x.answered(1, "steal", `["m00000"]`, `{"locked":true}`)
	x.hears(0, notice("stolen", `["m00000"]`))
	x.answered(0, "unlock", `["m00003"]`, "{}")
	x.answered(1, "steal", `["n"]`, `{"locked":true}`)
}

// doneLike tells that a request comes to the same by FeedSession and by ServerDo.
func doneLike(t *testing.T, v impl.Server, i int, q impl.Request) {
	t.Helper()
	params, _ := impl.PrintJson(list(q.Params...))
	fed, code := impl.FeedSession(v, i, request(q.Id, q.Method, params))
	done, doneCode := impl.ServerDo(v, i, q)
	if code != impl.OK || doneCode != impl.OK || !alike(fed, done) || !impl.ServerOK(done) {
		t.Errorf("%s is done to be %s, %d, and fed to be %s, %d", brief(q), brief(done), doneCode, brief(fed), code)
	}
}

// A request that is done comes to what it would if it had come; what has come of a text stays there.
func TestRequestsThatAreDone(t *testing.T) {
	x := &served{t, fullServer()}
	for i, params := range map[string]string{"echo": `[1,{"a":[]}]`, "list_dbs": "[]", "get_schema": "[]", "transact": `[{"op":"mutate","table":"switch","mutations":[["count","+=",3]]},{"op":"assert","lock":"b"}]`, "monitor": `["n",{"table":"port","columns":["name"]}]`, "monitor_cancel": `["m"]`, "lock": `["c"]`, "steal": `["b"]`, "unlock": `["b"]`, "none": "[]"} {
		for session := range 2 {
			for _, id := range []int{-1000000000, 0, 1000000000} {
				v := serverAgain(x.v)
				v.Sessions[session].Framer = impl.Framer{}
				doneLike(t, v, session, impl.Request{Id: id, Method: i, Params: said(params).Items})
				doneLike(t, v, session, impl.Request{Id: id, Method: i})
				doneLike(t, v, session, impl.Request{Id: id, Method: i, Params: []impl.Json{number(1), text("a")}})
			}
		}
	}
	x.does(0, impl.Request{Id: 7, Method: "list_dbs"})
	if f := x.v.Sessions[0].Framer; f != quoted(`{"a`, 1) {
		t.Errorf("the framer is %s", told(f))
	}
}

// wrongRequests are requests of a part that is not right.
func wrongRequests() map[string]impl.Request {
	all := map[string]impl.Request{
		"an Id above all":             {Id: 1000000001, Method: "echo"},
		"an Id below all":             {Id: -1000000001, Method: "echo"},
		"the greatest Id":             {Id: math.MaxInt, Method: "echo"},
		"the least Id":                {Id: math.MinInt, Method: "echo"},
		"a Method of a line":          {Method: "\n"},
		"a Method with a byte of 127": {Method: "echo\x7f"},
		"a Method of 201 bytes":       {Method: strings.Repeat("m", 201)},
		"a Method that is too long":   {Method: strings.Repeat("m", impl.MaxText+1)},
		"Params of 399 values":        {Method: "echo", Params: numbers(399).Items},
		"Params that are 11 deep":     {Method: "echo", Params: []impl.Json{nested(number(1), 10, true)}},
		"MaxList Params":              {Method: "echo", Params: make([]impl.Json, impl.MaxList)},
		"MaxList Params and one more": {Method: "echo", Params: make([]impl.Json, impl.MaxList+1)},
		"Params 400 values in one":    {Method: "echo", Params: []impl.Json{numbers(399)}},
	}
	for what, j := range wrongValues() {
		all["Params of "+what] = impl.Request{Method: "echo", Params: []impl.Json{number(1), j}}
		all["a Param of "+what] = impl.Request{Method: "none", Params: []impl.Json{j}}
	}
	return all
}

// A request that is not right is ErrBad, whether the session is open or not.
func TestRequestsThatAreNotRight(t *testing.T) {
	for what, q := range wrongRequests() {
		for i := range 3 {
			if v, code := impl.ServerDo(fullServer(), i, q); code != impl.ErrBad || !alike(v, impl.Server{}) {
				t.Errorf("%s: ServerDo of session %d is %s, %d", what, i, brief(v), code)
			}
		}
	}
	x := serverOf(t, 0)
	deep := []impl.Json{nested(list(), 9, true)}
	for _, q := range []impl.Request{{Method: strings.Repeat("m", 200)}, {Id: 1000000000}, {Id: -1000000000, Method: " ~"}, {Method: "none", Params: deep}, {Method: "none", Params: numbers(398).Items}, {Method: "none", Params: []impl.Json{numbers(397)}}} {
		x.does(0, q)
		x.hears(0, refusal(q.Id, impl.ErrMethod))
	}
	x.does(0, impl.Request{Method: "echo", Params: numbers(396).Items})
	x.does(0, impl.Request{Id: 1, Method: "echo", Params: deep})
	many, _ := impl.PrintJson(numbers(396))
	nine, _ := impl.PrintJson(list(deep...))
	x.hears(0, replyTo(0, many), replyTo(1, nine))
}
