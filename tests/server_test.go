package tests

import (
	"fmt"
	"math"
	"reflect"
	"slices"
	"strings"
	"testing"

	"loop.example/g00524/impl"
)

// request, replyTo, refusal and notice are texts: what a session asks for, what becomes of that, and what it is told
// without having asked.
func request(id int, method, params string) string {
	return fmt.Sprintf(`{"id":%d,"method":%s,"params":%s}`, id, quoteTold(method), params)
}

func replyTo(id int, result string) string {
	return fmt.Sprintf(`{"error":null,"id":%d,"result":%s}`, id, result)
}

func refusal(id, code int) string {
	return fmt.Sprintf(`{"error":%s,"id":%d,"result":null}`, quoteTold(impl.CodeWord(code)), id)
}

func notice(method, params string) string {
	return fmt.Sprintf(`{"id":null,"method":%s,"params":%s}`, quoteTold(method), params)
}

// served is a server under test.
type served struct {
	*testing.T
	v impl.Server
}

// serverOf answers a new server of the plain schema with some sessions open.
func serverOf(t *testing.T, open ...int) *served {
	t.Helper()
	v, code := impl.NewServer(impl.PlainSchema())
	x := &served{T: t}
	x.made("NewServer", v, code)
	for _, i := range open {
		x.opens(i)
	}
	return x
}

// made tells that a call has no code and answers a right server, and goes on with it.
func (x *served) made(call string, v impl.Server, code int) {
	x.Helper()
	if code != impl.OK || !impl.ServerOK(v) {
		x.Fatalf("%s has the code %d, ServerOK is %v of %s", call, code, impl.ServerOK(v), brief(v))
	}
	x.v = v
}

func (x *served) opens(i int) {
	x.Helper()
	v, code := impl.OpenSession(x.v, i)
	x.made(fmt.Sprintf("OpenSession of %d", i), v, code)
}

func (x *served) closes(i int) {
	x.Helper()
	v, code := impl.CloseSession(x.v, i)
	x.made(fmt.Sprintf("CloseSession of %d", i), v, code)
}

// fed hands a session what is in some texts, at once.
func (x *served) fed(i int, texts ...string) {
	x.Helper()
	whole := strings.Join(texts, "")
	v, code := impl.FeedSession(x.v, i, whole)
	x.made(fmt.Sprintf("FeedSession of %d, %.200q", i, whole), v, code)
}

// asks feeds a request of number 1.
func (x *served) asks(i int, method, params string) {
	x.Helper()
	x.fed(i, request(1, method, params))
}

func (x *served) does(i int, q impl.Request) {
	x.Helper()
	v, code := impl.ServerDo(x.v, i, q)
	x.made(fmt.Sprintf("ServerDo of %d, %s", i, brief(q)), v, code)
}

// hears tells which texts wait for a session, and takes them.
func (x *served) hears(i int, want ...string) {
	x.Helper()
	v, list, code := impl.TakeOut(x.v, i)
	x.made(fmt.Sprintf("TakeOut of %d", i), v, code)
	if !slices.Equal(list, want) {
		x.Errorf("session %d hears\n%.2000s, not\n%.2000s", i, strings.Join(list, "\n"), strings.Join(want, "\n"))
	}
	if len(v.Sessions[i].Out) > 0 {
		x.Errorf("something is left: %.300q", v.Sessions[i].Out)
	}
}

// answered asks for something and tells what session i hears of it, and nothing else.
func (x *served) answered(i int, method, params, want string) {
	x.Helper()
	x.asks(i, method, params)
	x.hears(i, replyTo(1, want))
}

func (x *served) refused(i int, method, params string, want int) {
	x.Helper()
	x.asks(i, method, params)
	x.hears(i, refusal(1, want))
}

// areOpen tells which sessions are open, and that all others are zero.
func (x *served) areOpen(want ...int) {
	x.Helper()
	for i, s := range x.v.Sessions {
		if s.Open != slices.Contains(want, i) {
			x.Errorf("session %d is open: %v; open should be %v", i, s.Open, want)
		}
		if !s.Open && !alike(s, impl.Session{}) {
			x.Errorf("session %d is not open, and is %s", i, brief(s))
		}
	}
}

func (x *served) haveLocks(want ...impl.Lock) {
	x.Helper()
	if !alike(x.v.Locks, locks(want...)) {
		x.Errorf("the locks are %v, not %v", x.v.Locks, want)
	}
}

func serverAgain(v impl.Server) impl.Server {
	return again(reflect.ValueOf(v), false, 0).Interface().(impl.Server)
}

// fullServer has all that a server may: rows, locks that are owned and waited for, texts on both ways, monitors.
func fullServer() impl.Server {
	seen := func(name, table string, columns ...string) impl.Monitor {
		m := monitor(table, columns)
		m.Name = name
		return m
	}
	asked := seen("m", "switch", "count", "name")
	asked.Where = conds(cond("count", impl.CoLt, intAtom(9)), cond("_uuid", impl.CoExcludes, ids(4, 5)...))
	return impl.Server{
		Schema: impl.PlainSchema(),
		Store:  smallStore(),
		Locks:  locks(lock("a", 0), lock("b", 1, 0), lock("c", 1)),
		Sessions: []impl.Session{
			{Open: true, Framer: quoted(`{"a`, 1), Out: []string{`{"a":1}`, "null", `"\\"`}, Monitors: []impl.Monitor{asked, seen("a", "port"), seen("z", "note", "about", "about")}},
			{Open: true, Monitors: []impl.Monitor{seen("m", "note", "name")}},
			{},
		},
	}
}

func printedTexts() []string {
	return []string{"null", "true", "false", "0", "-7", "1000000000", `""`, `"a"`, `"\"\\/"`, "[]", "{}", `[1,[2]]`, `{"a":1,"b":{}}`}
}

// oddTexts are no texts of values, or those of values that are printed otherwise.
func oddTexts() []string {
	return []string{"", " ", "nul", "x", "01", "-0", "1000000001", " 1", "1 ", "[1, 2]", "[1 ]", `{"b":1,"a":2}`, `{"a":1,"a":1}`, `{"a": 1}`, `"\/"`, `"a`, "\"\n\"", "[", "]", "[]]", "1 2", "\n", strings.Repeat(" ", impl.MaxText+1) + "1",
		`"` + strings.Repeat("a", 201) + `"`, "[" + strings.Repeat("1,", 399) + "1]", strings.Repeat("[", 13) + strings.Repeat("]", 13)}
}

func TestNewServers(t *testing.T) {
	for _, s := range []impl.Schema{impl.PlainSchema(), heldSchema(), schema(table("t", intColumn(0, 1, 0, 9)))} {
		v, code := impl.NewServer(s)
		x, _ := impl.NewStore(s)
		want := impl.Server{Schema: s, Store: x, Sessions: make([]impl.Session, 3)}
		if code != impl.OK || !alike(v, want) || !impl.ServerOK(v) {
			t.Errorf("NewServer(%s) is %s, %d", brief(s), brief(v), code)
		}
	}
	for what, x := range wrongTables() {
		if v, code := impl.NewServer(schema(x)); code != impl.ErrBad || !alike(v, impl.Server{}) {
			t.Errorf("%s: NewServer is %s, %d", what, brief(v), code)
		}
	}
	for _, s := range []impl.Schema{{}, schema(someTables("a", "b", "c", "d", "e")...), schema(someTables("b", "a")...), {Tables: make([]impl.Table, impl.MaxList+1)}} {
		if v, code := impl.NewServer(s); code != impl.ErrBad || !alike(v, impl.Server{}) {
			t.Errorf("NewServer(%s) is %s, %d", brief(s), brief(v), code)
		}
	}
}

// rightServers are those at the edges of what a server may be.
func rightServers() map[string]impl.Server {
	all := map[string]impl.Server{"a full one": fullServer()}
	with := func(what string, change func(v *impl.Server)) {
		v := serverAgain(fullServer())
		change(&v)
		all[what] = v
	}
	with("MaxOut texts", func(v *impl.Server) { v.Sessions[1].Out = slices.Repeat([]string{"1"}, 12) })
	with("MaxLocks locks", func(v *impl.Server) { v.Locks = manyLocks(6, 1, 0) })
	with("no locks", func(v *impl.Server) { v.Locks = nil })
	with("no rows", func(v *impl.Server) { v.Store, _ = impl.NewStore(v.Schema) })
	with("all open", func(v *impl.Server) { v.Sessions[2].Open, v.Locks[0].Queue = true, []int{2, 0, 1} })
	with("empty lists", func(v *impl.Server) {
		v.Sessions[1].Out, v.Sessions[1].Monitors, v.Locks = []string{}, []impl.Monitor{}, []impl.Lock{}
		v.Sessions[2] = impl.Session{Out: []string{}, Monitors: []impl.Monitor{}}
	})
	with("the longest text that comes", func(v *impl.Server) { v.Sessions[0].Framer = quoted(filled(`["`, 3000), 1) })
	with("monitors of the same names in two sessions", func(v *impl.Server) { v.Sessions[1].Monitors = v.Sessions[0].Monitors })
	with("a text longer than any that is handed in", func(v *impl.Server) { v.Sessions[1].Out = []string{longestText()} })
	for _, told := range printedTexts() {
		with("the text "+told, func(v *impl.Server) { v.Sessions[1].Out = []string{"1", told} })
	}
	return all
}

// longestText is that of a right value, of more than MaxText bytes.
func longestText() string {
	j := list()
	for range 399 {
		j.Items = append(j.Items, text(strings.Repeat(`"`, 200)))
	}
	told, _ := impl.PrintJson(j)
	return told
}

func TestRightServers(t *testing.T) {
	for what, v := range rightServers() {
		if !impl.ServerOK(v) {
			t.Errorf("%s: ServerOK is false", what)
		}
		if code := anyCode(v, 0); code != impl.OK {
			t.Errorf("%s: a session can't be asked: %d", what, code)
		}
	}
	if len(longestText()) <= impl.MaxText {
		t.Errorf("the longest text has %d bytes", len(longestText()))
	}
}

// anyCode answers the code of TakeOut.
func anyCode(v impl.Server, i int) int {
	_, _, code := impl.TakeOut(v, i)
	return code
}

// wrongServers are full ones of which one thing is not right.
func wrongServers() map[string]impl.Server {
	all := map[string]impl.Server{"nothing": {}}
	with := func(what string, change func(v *impl.Server)) {
		v := serverAgain(fullServer())
		change(&v)
		all[what] = v
	}
	wrongSchemasAndStores(with)
	wrongLocksOfServers(with)
	wrongSessions(with)
	return all
}

func wrongSchemasAndStores(with func(what string, change func(v *impl.Server))) {
	with("no schema", func(v *impl.Server) { v.Schema = impl.Schema{} })
	with("another schema", func(v *impl.Server) { v.Schema = heldSchema() })
	with("a schema whose names fall", func(v *impl.Server) { slices.Reverse(v.Schema.Tables) })
	with("a schema of many tables", func(v *impl.Server) { v.Schema.Tables = make([]impl.Table, impl.MaxList+1) })
	with("a schema with a wrong column", func(v *impl.Server) { v.Schema.Tables[1].Columns[1].Low = 100 })
	with("no store", func(v *impl.Server) { v.Store = impl.Store{} })
	with("a store of one table less", func(v *impl.Server) { v.Store.Tables = v.Store.Tables[:2] })
	with("a store whose Next is too low", func(v *impl.Server) { v.Store.Next = 9 })
	with("ports that nobody holds", func(v *impl.Server) { v.Store.Tables[2] = nil })
	with("notes about nothing", func(v *impl.Server) { v.Store.Tables[0][0].Cells[1] = ids(4) })
	with("two ports of one name", func(v *impl.Server) { v.Store.Tables[1][1].Cells[0] = word("p") })
	with("rows that do not rise", func(v *impl.Server) { slices.Reverse(v.Store.Tables[0]) })
	with("many rows", func(v *impl.Server) { v.Store.Tables[0] = make([]impl.Row, impl.MaxList+1) })
}

func wrongLocksOfServers(with func(what string, change func(v *impl.Server))) {
	with("a lock whose owner is not open", func(v *impl.Server) { v.Locks[0].Queue = []int{2} })
	with("a lock that one waits for who is not open", func(v *impl.Server) { v.Locks[1].Queue = []int{1, 2} })
	with("the last lock owned by one who is not open", func(v *impl.Server) { v.Locks[2].Queue = []int{0, 1, 2} })
	with("a lock of nobody", func(v *impl.Server) { v.Locks[0].Queue = nil })
	with("a session twice in a queue", func(v *impl.Server) { v.Locks[0].Queue = []int{0, 0} })
	with("no such session in a queue", func(v *impl.Server) { v.Locks[0].Queue = []int{3} })
	with("a session below 0 in a queue", func(v *impl.Server) { v.Locks[0].Queue = []int{-1} })
	with("locks whose names fall", func(v *impl.Server) { slices.Reverse(v.Locks) })
	with("a lock twice", func(v *impl.Server) { v.Locks[1].Name = "a" })
	with("a lock of no name", func(v *impl.Server) { v.Locks[0].Name = "" })
	with("MaxLocks locks and one more", func(v *impl.Server) { v.Locks = manyLocks(7, 0) })
	with("MaxList locks", func(v *impl.Server) { v.Locks = manyLocks(impl.MaxList, 0) })
	with("MaxList locks and one more", func(v *impl.Server) { v.Locks = manyLocks(impl.MaxList+1, 0) })
	with("all sessions closed, and locks", func(v *impl.Server) { v.Sessions = make([]impl.Session, 3) })
}

func wrongSessions(with func(what string, change func(v *impl.Server))) {
	with("no sessions", func(v *impl.Server) { v.Sessions, v.Locks = nil, nil })
	with("too few sessions", func(v *impl.Server) { v.Sessions = v.Sessions[:2] })
	with("too many sessions", func(v *impl.Server) { v.Sessions = append(v.Sessions, impl.Session{}) })
	with("MaxList sessions", func(v *impl.Server) { v.Sessions = append(v.Sessions, make([]impl.Session, impl.MaxList-3)...) })
	with("MaxList sessions and one more", func(v *impl.Server) { v.Sessions = append(v.Sessions, make([]impl.Session, impl.MaxList-2)...) })
	with("not open, with a text that comes", func(v *impl.Server) { v.Sessions[2].Framer = within("[", 1) })
	with("not open, with a closed framer", func(v *impl.Server) { v.Sessions[2].Framer.Closed = true })
	with("not open, with a text that waits", func(v *impl.Server) { v.Sessions[2].Out = []string{"1"} })
	with("not open, with a monitor", func(v *impl.Server) { v.Sessions[2].Monitors = v.Sessions[1].Monitors })
	with("a closed framer", func(v *impl.Server) { v.Sessions[1].Framer = impl.Framer{Closed: true} })
	with("MaxOut texts and one more", func(v *impl.Server) { v.Sessions[1].Out = slices.Repeat([]string{"1"}, 13) })
	with("MaxList texts", func(v *impl.Server) { v.Sessions[1].Out = slices.Repeat([]string{"1"}, impl.MaxList) })
	with("MaxList texts and one more", func(v *impl.Server) { v.Sessions[1].Out = slices.Repeat([]string{"1"}, impl.MaxList+1) })
	for what, f := range wrongFramers() {
		with("a framer of "+what, func(v *impl.Server) { v.Sessions[1].Framer = f })
	}
	for _, told := range oddTexts() {
		with(fmt.Sprintf("the text %.20q", told), func(v *impl.Server) { v.Sessions[1].Out = []string{"1", told} })
		with(fmt.Sprintf("the text %.20q first", told), func(v *impl.Server) { v.Sessions[0].Out[0] = told })
	}
	with("one name twice", func(v *impl.Server) { v.Sessions[0].Monitors[2].Name = "m" })
	with("MaxMonitors monitors and one more", func(v *impl.Server) {
		m := v.Sessions[1].Monitors[0]
		m.Name = "n"
		v.Sessions[0].Monitors = append(v.Sessions[0].Monitors, m)
	})
	with("MaxList monitors and one more", func(v *impl.Server) { v.Sessions[0].Monitors = make([]impl.Monitor, impl.MaxList+1) })
	wrongMonitorsOfServers(with)
}

func wrongMonitorsOfServers(with func(what string, change func(v *impl.Server))) {
	for what, change := range map[string]func(m *impl.Monitor){
		"of no name":                       func(m *impl.Monitor) { m.Name = "" },
		"of a name of 41 bytes":            func(m *impl.Monitor) { m.Name = strings.Repeat("m", 41) },
		"of a table that is none":          func(m *impl.Monitor) { m.Table = "zz" },
		"of a column that is none":         func(m *impl.Monitor) { m.Columns[1] = "tag" },
		"of the Id as a column":            func(m *impl.Monitor) { m.Columns[0] = "_uuid" },
		"of 7 columns":                     func(m *impl.Monitor) { m.Columns = slices.Repeat(columnsOf("name"), 7) },
		"of a condition that is not right": func(m *impl.Monitor) { m.Where[1].Func = 9 },
		"of a condition on no column":      func(m *impl.Monitor) { m.Where[0].Column = "tag" },
		"of a condition of another kind":   func(m *impl.Monitor) { m.Where[0].Value = word("x") },
		"of 9 conditions":                  func(m *impl.Monitor) { m.Where = slices.Repeat(m.Where[:1], 9) },
	} {
		with("a monitor "+what, func(v *impl.Server) { change(&v.Sessions[0].Monitors[0]) })
	}
	with("a last monitor of a table that is none", func(v *impl.Server) { v.Sessions[0].Monitors[2].Table = "zz" })
}

// Of a server that is not right each call answers ErrBad alone, whatever session it is asked of.
func TestWrongServers(t *testing.T) {
	for what, v := range wrongServers() {
		if impl.ServerOK(v) {
			t.Errorf("%s: ServerOK is true", what)
		}
		for _, i := range []int{0, 1, 2, -1, 3} {
			callsAre(t, what, v, i, "[]", impl.Request{Method: "echo"}, impl.ErrBad)
			callsAre(t, what, v, i, "[]", impl.Request{Id: math.MaxInt, Method: "\n"}, impl.ErrBad)
			callsAre(t, what, v, i, strings.Repeat(" ", impl.MaxText), impl.Request{}, impl.ErrBad)
		}
	}
}

// callsAre tells that all calls in a session answer a code, with nothing beside it.
func callsAre(t *testing.T, what string, v impl.Server, i int, fed string, q impl.Request, want int) {
	t.Helper()
	nothing := func(call string, made impl.Server, code int) {
		t.Helper()
		if code != want || !alike(made, impl.Server{}) {
			t.Errorf("%s: %s of session %d is %s, %d", what, call, i, brief(made), code)
		}
	}
	made, code := impl.OpenSession(v, i)
	nothing("OpenSession", made, code)
	made, code = impl.CloseSession(v, i)
	nothing("CloseSession", made, code)
	made, code = impl.FeedSession(v, i, fed)
	nothing("FeedSession", made, code)
	made, taken, code := impl.TakeOut(v, i)
	nothing("TakeOut", made, code)
	if len(taken) > 0 {
		t.Errorf("%s: TakeOut of session %d answers %.300q beside a code", what, i, taken)
	}
	made, code = impl.ServerDo(v, i, q)
	nothing("ServerDo", made, code)
}

// A session that is none is ErrRange, also beside a request that is not right.
func TestSessionsThatAreNone(t *testing.T) {
	for what, v := range rightServers() {
		for _, i := range []int{-1, 3, 4, math.MaxInt, math.MinInt} {
			callsAre(t, what, v, i, "[]", impl.Request{Method: "echo"}, impl.ErrRange)
			callsAre(t, what, v, i, "", impl.Request{Method: "\n"}, impl.ErrRange)
		}
	}
}

// The first and the last session, and one between, can be opened and closed; the others stay.
func TestOpenedAndClosed(t *testing.T) {
	for i := range 3 {
		x := serverOf(t)
		x.areOpen()
		x.opens(i)
		x.areOpen(i)
		want := make([]impl.Session, 3)
		want[i].Open = true
		if !alike(x.v.Sessions, want) {
			t.Errorf("sessions are %s", brief(x.v.Sessions))
		}
		x.hears(i)
		x.closes(i)
		x.areOpen()
	}
	x := &served{t, fullServer()}
	x.opens(2)
	want := serverAgain(fullServer())
	want.Sessions[2].Open = true
	if !alike(x.v, want) {
		t.Errorf("OpenSession makes %s of %s", brief(x.v), brief(fullServer()))
	}
}

// What is not to be done in a session that is open, or is not, answers the server as it was.
func TestServersAsTheyWere(t *testing.T) {
	for what, v := range rightServers() {
		stays := func(call string, made impl.Server, code, want int) {
			if code != want || !alike(made, v) {
				t.Errorf("%s: %s is %s, %d", what, call, brief(made), code)
			}
		}
		for i, s := range v.Sessions {
			if s.Open {
				made, code := impl.OpenSession(v, i)
				stays("OpenSession", made, code, impl.ErrTwice)
				continue
			}
			made, code := impl.CloseSession(v, i)
			stays("CloseSession", made, code, impl.ErrClosed)
			for _, fed := range []string{"", "x", request(1, "echo", "[]"), strings.Repeat(" ", impl.MaxText)} {
				made, code = impl.FeedSession(v, i, fed)
				stays("FeedSession", made, code, impl.ErrClosed)
			}
			made, taken, code := impl.TakeOut(v, i)
			stays("TakeOut", made, code, impl.ErrClosed)
			if len(taken) > 0 {
				t.Errorf("%s: %q is taken", what, taken)
			}
			made, code = impl.ServerDo(v, i, impl.Request{Id: 1, Method: "echo"})
			stays("ServerDo", made, code, impl.ErrClosed)
		}
	}
}

// A text longer than MaxText is ErrLong ahead of all other codes.
func TestLongTextsAreFed(t *testing.T) {
	long := strings.Repeat(" ", impl.MaxText+1)
	given := wrongServers()
	given["a right one"] = fullServer()
	for what, v := range given {
		for _, i := range []int{0, 2, 3, -1} {
			if made, code := impl.FeedSession(v, i, long); code != impl.ErrLong || !alike(made, impl.Server{}) {
				t.Errorf("%s: FeedSession of a long text is %s, %d", what, brief(made), code)
			}
		}
	}
	x := serverOf(t, 0)
	x.fed(0, long[1:])
	x.fed(0, strings.Repeat(" ", impl.MaxText-len(request(1, "echo", "[]")))+request(1, "echo", "[]"))
	x.hears(0, replyTo(1, "[]"))
	x.fed(0, "")
	x.hears(0)
	x.areOpen(0)
}

// What waits is answered in order, once; what comes in stays, as do monitors and locks.
func TestTakenOut(t *testing.T) {
	x := &served{t, fullServer()}
	x.hears(0, `{"a":1}`, "null", `"\\"`)
	want := serverAgain(fullServer())
	want.Sessions[0].Out = nil
	if !alike(x.v, want) {
		t.Errorf("TakeOut makes %s of %s", brief(x.v), brief(fullServer()))
	}
	x.hears(0)
	x.hears(1)
	if !alike(x.v, want) {
		t.Errorf("TakeOut of nothing makes %s of %s", brief(x.v), brief(want))
	}
}

// A text is a request wherever it is cut, and what came of one that has not ended stays for the next piece.
func TestFedPieceByPiece(t *testing.T) {
	whole := request(7, "echo", `["\"}]",{"a":[1]}]`)
	for place := range len(whole) + 1 {
		x := serverOf(t, 0, 1)
		x.fed(0, whole[:place])
		if place < len(whole) {
			x.hears(0)
		}
		x.fed(1, request(8, "echo", "[]"))
		x.hears(1, replyTo(8, "[]"))
		if f := x.v.Sessions[0].Framer.Buf; place < len(whole) && f != whole[:place] {
			t.Errorf("%q has come, and %q is there", whole[:place], f)
		}
		x.fed(0, whole[place:], " \n", whole, "{")
		x.hears(0, replyTo(7, `["\"}]",{"a":[1]}]`), replyTo(7, `["\"}]",{"a":[1]}]`))
		if f := x.v.Sessions[0].Framer; f != within("{", 1) {
			t.Errorf("what is left is %s", told(f))
		}
	}
}

// noRequests are right texts of streams that are no requests.
func noRequests() []string {
	return []string{
		"[]", "{}", "[1]", `{"id":1,"method":"echo"}`, `{"id":1,"params":[]}`, `{"method":"echo","params":[]}`,
		`{"id":1,"method":"echo","params":[],"x":1}`, `{"id":1,"id":1,"method":"echo","params":[]}`, `{"id":1,"method":"echo","params":[],"error":null}`,
		`{"id":null,"method":"echo","params":[]}`, `{"id":"1","method":"echo","params":[]}`, `{"id":true,"method":"echo","params":[]}`, `{"id":[],"method":"echo","params":[]}`,
		`{"id":1000000001,"method":"echo","params":[]}`, `{"id":-1000000001,"method":"echo","params":[]}`, `{"id":01,"method":"echo","params":[]}`, `{"id":-0,"method":"echo","params":[]}`, `{"id":1.5,"method":"echo","params":[]}`,
		`{"id":1,"method":1,"params":[]}`, `{"id":1,"method":null,"params":[]}`, `{"id":1,"method":["echo"],"params":[]}`, `{"id":1,"method":"` + strings.Repeat("m", 201) + `","params":[]}`, `{"id":1,"method":"\n","params":[]}`,
		`{"id":1,"method":"echo","params":{}}`, `{"id":1,"method":"echo","params":null}`, `{"id":1,"method":"echo","params":"[]"}`, `{"id":1,"method":"echo","params":1}`,
		`{"id":1,"method":"echo","params":[}]`, `{"id":1,"method":"echo","params":[x]}`, `{"id":1,"method":"echo","params":[1,]}`, `[{"id":1,"method":"echo","params":[]}]`, `{"Id":1,"Method":"echo","Params":[]}`,
		request(1, "echo", "["+strings.Repeat("1,", 396)+"1]"), request(1, "echo", strings.Repeat("[", 11)+"1"+strings.Repeat("]", 11)),
	}
}

// A text that is no request closes the session: what is ahead of it is done, what is behind it is lost.
func TestTextsThatAreNoRequests(t *testing.T) {
	mark := func(name string) string {
		return request(1, "transact", fmt.Sprintf(`[{"op":"insert","table":"note","row":{"name":%q}}]`, name))
	}
	for _, wrong := range noRequests() {
		x := serverOf(t, 0, 1)
		x.fed(1, request(2, "monitor", `["m",{"table":"note","columns":["name"]}]`))
		x.hears(1, replyTo(2, "[]"))
		x.fed(0, mark("ahead"), wrong, mark("behind"))
		x.areOpen(1)
		x.hears(1, notice("update", `["m",[{"new":{"name":"ahead"},"old":null,"uuid":1}]]`))
		if len(x.v.Store.Tables[0]) != 1 || x.v.Store.Next != 2 {
			t.Errorf("%.100s: what comes behind it is done", wrong)
		}
		x.opens(0)
		x.fed(0, wrong)
		x.areOpen(1)
	}
}

// So does a byte that no stream has there; also a text that is too long, or too deep.
func TestStreamsThatClose(t *testing.T) {
	echo := request(1, "transact", `[{"op":"insert","table":"note"}]`)
	for _, wrong := range []string{"x", "]", "\x00", "1", `"`, strings.Repeat("[", 13), filled(`{"`, 3001), " x", "{}}"} {
		x := serverOf(t, 0, 1)
		x.fed(0, echo, echo, wrong, echo)
		x.areOpen(1)
		if x.v.Store.Next != 3 {
			t.Errorf("%.20q: Next is %d", wrong, x.v.Store.Next)
		}
		if made, code := impl.FeedSession(x.v, 0, echo); code != impl.ErrClosed || !alike(made, x.v) {
			t.Errorf("%.20q: what is fed behind it is %s, %d", wrong, brief(made), code)
		}
		x.opens(0)
		x.fed(0, "[")
		x.closes(0)
		x.opens(0)
		x.fed(0, echo)
		x.hears(0, replyTo(1, `[{"uuid":["uuid",3]}]`))
	}
}

// The greatest requests that a text can be: of MaxMessage bytes, 400 values, 12 deep.
func TestGreatRequests(t *testing.T) {
	x := serverOf(t, 0)
	many := "[" + strings.Repeat("1,", 395) + "1]"
	deep := strings.Repeat("[", 10) + "1" + strings.Repeat("]", 10)
	x.fed(0, request(1, "echo", many), request(2, "echo", deep))
	x.hears(0, replyTo(1, many), replyTo(2, deep))
	long := request(3, "echo", `["`)
	long = long[:len(long)-1]
	var words []string
	for room := 3000 - len(long) - len(`"]}`); room > 0; room -= 203 {
		words = append(words, strings.Repeat("w", min(room, 200)))
	}
	params := strings.Join(words, `","`)
	long += params + `"]}`
	if len(long) != 3000 {
		t.Fatalf("the longest request has %d bytes", len(long))
	}
	x.fed(0, long)
	x.hears(0, replyTo(3, `["`+params+`"]`))
	x.fed(0, long[:2999], " ", "}")
	x.areOpen()
}
