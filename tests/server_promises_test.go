package tests

import (
	"fmt"
	"math/rand"
	"reflect"
	"runtime"
	"slices"
	"strings"
	"sync"
	"testing"
	"time"

	"loop.example/g00524/impl"
)

// guest is a session of a house. It keeps all bytes that have come since it was opened, and how many of the texts in them
// have been heard.
type guest struct {
	open     bool
	came     string
	heard    int
	out      []string
	monitors []impl.Monitor
}

// house is what chapter 15 of the document says of a server, told once more, by texts.
type house struct {
	schema impl.Schema
	store  impl.Store
	locks  queues
	guests [3]guest
	must   []int
	cases  map[string]int
}

func newHouse() *house {
	s := impl.PlainSchema()
	x, _ := impl.NewStore(s)
	return &house{schema: s, store: x, locks: queues{}, cases: map[string]int{}}
}

// server is the one that a house tells of.
func (h *house) server() impl.Server {
	v := impl.Server{Schema: h.schema, Store: h.store, Locks: h.locks.list(), Sessions: make([]impl.Session, 3)}
	for i, g := range h.guests {
		f, _, _ := impl.FeedAll([]string{g.came})
		v.Sessions[i] = impl.Session{Open: g.open, Framer: f, Out: g.out, Monitors: g.monitors}
	}
	return v
}

func (h *house) opens(i int) int {
	if h.guests[i].open {
		return impl.ErrTwice
	}
	h.guests[i] = guest{open: true}
	return impl.OK
}

func (h *house) closes(i int) int {
	if !h.guests[i].open {
		return impl.ErrClosed
	}
	h.must = append(h.must, i)
	h.closeAll()
	return impl.OK
}

func (h *house) takes(i int) ([]string, int) {
	if !h.guests[i].open {
		return nil, impl.ErrClosed
	}
	taken := h.guests[i].out
	h.guests[i].out = nil
	return taken, impl.OK
}

// feeds reads all that has come from its beginning.
func (h *house) feeds(i int, fed string) int {
	if !h.guests[i].open {
		return impl.ErrClosed
	}
	h.guests[i].came += fed
	f, texts, _ := impl.FeedAll([]string{h.guests[i].came})
	for _, one := range texts[h.guests[i].heard:] {
		j, _ := impl.ParseJson(one)
		q, isOne := requestMeant(j)
		if !isOne {
			h.cases["no request"]++
			h.closes(i)
			return impl.OK
		}
		h.guests[i].heard++
		h.does(i, q)
		if !h.guests[i].open {
			return impl.OK
		}
	}
	if f.Closed {
		h.cases["no stream"]++
		h.closes(i)
	}
	return impl.OK
}

func (h *house) does(i int, q impl.Request) int {
	if !h.guests[i].open {
		return impl.ErrClosed
	}
	result, code := h.result(i, q)
	h.cases[q.Method+" "+impl.CodeWord(code)]++
	if code != impl.OK {
		h.sends(i, "a reply", refusal(q.Id, code))
	} else {
		h.sends(i, "a reply", replyTo(q.Id, result))
	}
	h.closeAll()
	return impl.OK
}

// sends takes a text that is none of a right value for one that can't be sent.
func (h *house) sends(i int, what, told string) {
	_, code := impl.ParseJson(told)
	switch {
	case code != impl.OK:
		h.cases[what+" that is not right"]++
		h.must = append(h.must, i)
	case len(h.guests[i].out) == 12:
		h.cases[what+" without room"]++
		h.must = append(h.must, i)
	default:
		h.guests[i].out = append(slices.Clone(h.guests[i].out), told)
	}
}

func (h *house) closeAll() {
	for ; len(h.must) > 0; h.must = h.must[1:] {
		i := h.must[0]
		if !h.guests[i].open {
			continue
		}
		h.guests[i] = guest{}
		var all []impl.Told
		for _, x := range h.locks.list() {
			told, _ := h.locks.leaves(i, x.Name)
			all = append(all, told...)
		}
		h.tells("a closing", all)
	}
}

func (h *house) tells(what string, list []impl.Told) {
	for _, x := range list {
		h.cases[what+" "+x.Word]++
		h.sends(x.Session, "a lock", notice(x.Word, fmt.Sprintf("[%q]", x.Name)))
	}
}

func (h *house) result(i int, q impl.Request) (string, int) {
	params, _ := meant(list(q.Params...)).([]any)
	switch q.Method {
	case "echo":
		told, _ := impl.PrintJson(list(q.Params...))
		return told, impl.OK
	case "list_dbs":
		return `["net"]`, impl.OK
	case "get_schema":
		return `["note","port","switch"]`, impl.OK
	case "transact":
		return h.transacts(i, params)
	case "monitor", "monitor_cancel", "lock", "steal", "unlock":
		if len(params) == 0 {
			return "", impl.ErrForm
		}
		name, isText := params[0].(string)
		if !isText || !impl.NameOK(name) || (len(params) == 2) != (q.Method == "monitor") || len(params) > 2 {
			return "", impl.ErrForm
		}
		if q.Method == "monitor" {
			return h.monitors(i, name, params[1])
		}
		return h.called(i, q.Method, name)
	}
	return "", impl.ErrMethod
}

func (h *house) transacts(i int, params []any) (string, int) {
	var list []impl.Op
	right := true
	for _, param := range params {
		o, isOne := opMeant(param)
		list, right = append(list, o), right && isOne
	}
	switch {
	case len(params) > 8:
		return "", impl.ErrMany
	case !right:
		return "", impl.ErrForm
	case h.store.Next+len(params) > 1000000:
		return "", impl.ErrFull
	}
	var owned []string
	for name, queue := range h.locks {
		if len(queue) > 0 && queue[0] == i {
			owned = append(owned, name)
		}
	}
	was := h.store
	made, results, _ := impl.Transact(h.schema, was, list, owned)
	h.store = made
	if lastCode(results) == impl.OK {
		h.updates(diffSays(was, made))
	}
	return h.resultsTold(list, results)
}

func (h *house) resultsTold(list []impl.Op, results []impl.Result) (string, int) {
	var told []string
	for k, x := range results {
		kind := impl.OpCommit
		if k < len(list) {
			kind = list[k].Kind
		} else {
			h.cases["failed at the end"]++
		}
		one, code := resultTold(kind, x)
		if code != impl.OK {
			return "", code
		}
		told = append(told, one)
	}
	h.cases["results "+impl.CodeWord(lastCode(results))]++
	return "[" + strings.Join(told, ",") + "]", impl.OK
}

func (h *house) updates(changed []impl.Change) {
	for i, g := range h.guests {
		for _, m := range g.monitors {
			if told := updatesSay(h.schema, m, changed); len(told) > 0 {
				h.cases["an update"]++
				h.sends(i, "an update", notice("update", fmt.Sprintf("[%q,%s]", m.Name, updatesTold(m, told))))
			}
		}
	}
}

func updatesTold(m impl.Monitor, list []impl.Update) string {
	side := func(r impl.Row) string {
		if r.Id == 0 {
			return "null"
		}
		return rowTold(m.Columns, r)
	}
	var told []string
	for _, u := range list {
		told = append(told, fmt.Sprintf(`{"new":%s,"old":%s,"uuid":%d}`, side(u.New), side(u.Old), u.Id))
	}
	return "[" + strings.Join(told, ",") + "]"
}

func (h *house) monitors(i int, name string, param any) (string, int) {
	m, isOne := monitorMeant(name, param)
	if !isOne {
		return "", impl.ErrForm
	}
	if code, _ := monitorSays(h.schema, m); code != impl.OK {
		return "", code
	}
	g := &h.guests[i]
	for _, other := range g.monitors {
		if other.Name == name {
			return "", impl.ErrTwice
		}
	}
	if len(g.monitors) == 3 {
		return "", impl.ErrMany
	}
	g.monitors = append(slices.Clone(g.monitors), m)
	var seen []impl.Update
	if m.Initial {
		for _, r := range viewSays(h.schema, h.store, m) {
			seen = append(seen, insert(r))
		}
	}
	return updatesTold(m, seen), impl.OK
}

func (h *house) called(i int, method, name string) (string, int) {
	switch method {
	case "lock":
		owns, code := h.locks.takes(i, name)
		return fmt.Sprintf(`{"locked":%v}`, owns), code
	case "steal":
		told, code := h.locks.steals(i, name)
		h.tells("a theft", told)
		return `{"locked":true}`, code
	case "unlock":
		told, code := h.locks.leaves(i, name)
		h.tells("a leaving", told)
		return "{}", code
	}
	g := &h.guests[i]
	var left []impl.Monitor
	for _, m := range g.monitors {
		if m.Name != name {
			left = append(left, m)
		}
	}
	if len(left) == len(g.monitors) {
		return "", impl.ErrNone
	}
	g.monitors = left
	return "{}", impl.OK
}

// drawn answers one of some texts.
func drawn(r *rand.Rand, list ...string) string { return list[r.Intn(len(list))] }

// drawnOperation answers a text of an operation on the plain schema, of few names, so that they come to something.
func drawnOperation(r *rand.Rand) string {
	name := func() string { return drawn(r, "a", "b", "c", "d") }
	where := drawn(r, "", "", fmt.Sprintf(`,"where":[["name",%q,%q]]`, drawn(r, "==", "!="), name()))
	switch r.Intn(24) {
	case 0, 1, 2:
		return fmt.Sprintf(`{"op":"insert","table":"note","row":{"name":%q}}`, name())
	case 3:
		return fmt.Sprintf(`{"op":"insert","table":"note","row":{"name":%q,"about":["uuid",%d]}}`, name(), 1+r.Intn(30))
	case 4, 5, 6:
		port := drawn(r, "p", "q")
		return fmt.Sprintf(`{"op":"insert","table":"port","uuid-name":%q,"row":{"name":%q}},{"op":"insert","table":"switch","row":{"name":%q,"ports":["named-uuid",%q]}}`, port, name(), name(), port)
	case 7:
		return fmt.Sprintf(`{"op":"insert","table":"switch","row":{"name":%q,"ports":["named-uuid",%q]}}`, name(), drawn(r, "p", "q"))
	case 8, 9, 10:
		return fmt.Sprintf(`{"op":"mutate","table":"switch","mutations":[["count",%q,%d]]%s}`, drawn(r, "+=", "-=", "*=", "/="), r.Intn(9), where)
	case 11:
		return fmt.Sprintf(`{"op":"mutate","table":"switch","mutations":[["ports",%q,["uuid",%d]]]%s}`, drawn(r, "insert", "delete"), 1+r.Intn(30), where)
	case 12, 13:
		return fmt.Sprintf(`{"op":"update","table":"port","row":{"up":%s,"tag":%s}%s}`, drawn(r, "true", "false"), drawn(r, "3", "7", `["set",[]]`), where)
	case 14:
		return fmt.Sprintf(`{"op":"update","table":"note","row":{"name":%q}%s}`, name(), where)
	case 15:
		return fmt.Sprintf(`{"op":"update","table":"switch","row":{"name":%q}%s}`, name(), where)
	case 16, 17:
		return fmt.Sprintf(`{"op":"delete","table":%q%s}`, drawn(r, "note", "switch", "switch", "port"), where)
	case 18:
		return fmt.Sprintf(`{"op":"select","table":%q,"columns":[%s]%s}`, drawn(r, "note", "switch", "port"), drawn(r, "", `"name"`, `"_uuid","name"`), where)
	case 19:
		return fmt.Sprintf(`{"op":"wait","table":"switch","until":%q,"row":{"count":%d}%s}`, drawn(r, "==", "!="), r.Intn(3), where)
	case 20:
		return fmt.Sprintf(`{"op":"assert","lock":%q}`, drawnLock(r))
	case 21:
		return drawn(r, `{"op":"commit"}`, `{"op":"comment","comment":"x"}`)
	case 22:
		return drawn(r, `{"op":"abort"}`, `{"op":"select","table":"zz"}`, `{"op":"commit"}`, `{"op":"insert","table":"port"}`)
	}
	return `{"op":"comment"}`
}

func drawnLock(r *rand.Rand) string { return fmt.Sprintf("l%d", r.Intn(7)) }

// drawnMonitor answers the parameters of a monitor.
func drawnMonitor(r *rand.Rand) string {
	t := impl.PlainSchema().Tables[r.Intn(3)]
	var names []string
	for _, c := range t.Columns {
		if r.Intn(2) == 0 {
			names = append(names, c.Name)
		}
	}
	if r.Intn(30) == 0 {
		names = append(names, "zz")
	}
	m := fieldsTold{"table": text(t.Name), "columns": textsSaid(names)}
	if r.Intn(30) == 0 {
		m["table"] = text("zz")
	}
	if r.Intn(2) == 0 {
		m["initial"] = truth(false)
	}
	if r.Intn(5) == 0 {
		m[drawn(r, "insert", "delete", "modify")] = truth(false)
	}
	if r.Intn(3) == 0 {
		m["where"] = list(list(text("name"), text(drawn(r, "!=", "==")), text(drawn(r, "a", "b"))))
	}
	told, _ := impl.PrintJson(list(text(drawn(r, "m", "n", "o", "p")), m.whole()))
	return told
}

// drawnRequest answers a method and parameters.
func drawnRequest(r *rand.Rand) (method, params string) {
	switch r.Intn(26) {
	case 0:
		told, _ := impl.PrintJson(list(someValue(r, 4)))
		return "echo", told
	case 1, 2:
		return drawn(r, "list_dbs", "get_schema", "none", "monitor", "lock", "transact", "steal", "unlock", "monitor_cancel"), drawn(r, "[]", "[1]", `["l1",1]`, `["9"]`, `[{"op":"x"}]`, `[{"op":"commit"},1]`)
	case 3, 4, 5:
		return "monitor", drawnMonitor(r)
	case 6:
		return "monitor_cancel", `["` + drawn(r, "m", "n", "o", "p") + `"]`
	case 7, 8, 9, 10:
		return "lock", `["` + drawnLock(r) + `"]`
	case 11:
		return "steal", `["` + drawnLock(r) + `"]`
	case 12, 13, 14:
		return "unlock", `["` + drawnLock(r) + `"]`
	}
	var list []string
	for range r.Intn(4) + r.Intn(4)*r.Intn(4)/3 {
		list = append(list, drawnOperation(r))
	}
	if r.Intn(100) == 0 {
		list = slices.Repeat([]string{`{"op":"comment"}`}, 7+r.Intn(3))
	}
	return "transact", "[" + strings.Join(list, ",") + "]"
}

// serverRun is a run of calls of all sessions. Each request has a number of its own; left is what is fed of a text later.
type serverRun struct {
	*testing.T
	r    *rand.Rand
	v    impl.Server
	h    *house
	left [3]string
	id   int
}

func newServerRun(t *testing.T, r *rand.Rand, cases map[string]int) *serverRun {
	v, _ := impl.NewServer(impl.PlainSchema())
	h := newHouse()
	h.cases = cases
	return &serverRun{T: t, r: r, v: v, h: h}
}

// came tells that a call came to what the document says: a right server, the one that the house tells of.
func (w *serverRun) came(call string, v impl.Server, code, want int) {
	w.Helper()
	if code != want || !impl.ServerOK(v) || !alike(v, w.h.server()) {
		w.Fatalf("%.600s has the code %d, not %d, ServerOK is %v:\n%v, not\n%v", call, code, want, impl.ServerOK(v), v, w.h.server())
	}
	w.v = v
}

// replied tells that a session that is open yet has one reply of each of some numbers among what waits for it.
func (w *serverRun) replied(i int, list []int) {
	w.Helper()
	s := w.v.Sessions[i]
	for _, id := range list {
		count := 0
		for _, told := range s.Out {
			if strings.HasPrefix(told, `{"error":`) && strings.Contains(told, fmt.Sprintf(`,"id":%d,"result":`, id)) {
				count++
			}
		}
		if s.Open && count != 1 || !s.Open && count != 0 {
			w.Fatalf("session %d has %d replies of %d: %q", i, count, id, s.Out)
		}
	}
}

// printed tells that what is taken are right values as they are printed.
func (w *serverRun) printed(taken []string) {
	w.Helper()
	for _, told := range taken {
		j, code := impl.ParseJson(told)
		again, printCode := impl.PrintJson(j)
		if code != impl.OK || printCode != impl.OK || again != told {
			w.Fatalf("%q is taken", told)
		}
	}
}

// step does one call.
func (w *serverRun) step() {
	w.Helper()
	i := w.r.Intn(3)
	switch kind := w.r.Intn(40); {
	case kind == 0:
		v, code := impl.CloseSession(w.v, i)
		w.came("CloseSession", v, code, w.h.closes(i))
		w.left[i] = ""
	case kind < 5 || !w.v.Sessions[i].Open && kind < 30:
		v, code := impl.OpenSession(w.v, i)
		w.came("OpenSession", v, code, w.h.opens(i))
	case kind < 11:
		v, taken, code := impl.TakeOut(w.v, i)
		want, wantCode := w.h.takes(i)
		if !slices.Equal(taken, want) {
			w.Fatalf("session %d takes %q, not %q", i, taken, want)
		}
		w.came("TakeOut", v, code, wantCode)
		w.printed(taken)
	case kind < 16:
		w.id++
		method, params := drawnRequest(w.r)
		q := impl.Request{Id: w.id, Method: method, Params: said(params).Items}
		v, code := impl.ServerDo(w.v, i, q)
		w.came(request(w.id, method, params), v, code, w.h.does(i, q))
		w.replied(i, []int{w.id})
	default:
		w.feeds(i)
	}
}

// feeds a session what was left for it, and some requests, but for what is left for later.
func (w *serverRun) feeds(i int) {
	w.Helper()
	var asked []int
	fed := w.left[i]
	for range 1 + w.r.Intn(3)*w.r.Intn(3) {
		w.id++
		method, params := drawnRequest(w.r)
		fed += request(w.id, method, params) + drawn(w.r, "", "", " ", "\n")
		asked = append(asked, w.id)
	}
	w.left[i] = ""
	switch w.r.Intn(60) {
	case 0, 1:
		fed += drawn(w.r, "x", "]", `{"id":1}`, "[]", strings.Repeat("[", 13)) + request(0, "echo", "[]")
	case 2, 3, 4, 5, 6, 7, 8, 9, 10, 11:
		place := w.r.Intn(len(fed))
		fed, w.left[i] = fed[:place], fed[place:]
		asked = nil
	}
	wasOpen := w.v.Sessions[i].Open
	v, code := impl.FeedSession(w.v, i, fed)
	w.came(fmt.Sprintf("FeedSession of %d, %s", i, fed), v, code, w.h.feeds(i, fed))
	if wasOpen {
		w.replied(i, asked)
	}
	if !v.Sessions[i].Open {
		w.left[i] = ""
	}
}

// seenAll tells that there were enough of some cases.
func seenAll(t *testing.T, cases map[string]int, least int, names ...string) {
	t.Helper()
	for _, name := range names {
		if cases[name] < least {
			t.Errorf("%q was there %d times", name, cases[name])
		}
	}
}

// Drawn runs of all calls of all sessions come to what the document says: a right server; one reply of each request to a
// session that is open, unless it is closed; texts of right values.
func TestPromise15SomeRuns(t *testing.T) {
	r := rand.New(rand.NewSource(15))
	cases := map[string]int{}
	for range 450 {
		w := newServerRun(t, r, cases)
		for range 60 {
			w.step()
		}
	}
	seenAll(t, cases, 100, "echo ok", "list_dbs ok", "get_schema ok", "none method", "transact ok", "monitor ok", "monitor twice", "monitor_cancel ok", "monitor_cancel none", "lock ok", "lock twice", "steal ok", "unlock ok", "unlock none", "transact form", "lock form", "no request",
		"an update", "a theft stolen", "a closing locked", "a reply without room", "failed at the end", "results ok", "results abort", "results owner", "results unique", "results ref", "results wait", "results twice")
	seenAll(t, cases, 8, "a leaving locked", "monitor form", "monitor table", "monitor column", "monitor many", "transact many", "monitor_cancel form", "steal form", "unlock form", "lock full", "an update without room", "a lock without room", "no stream", "results full")
}

// cutIn answers the pieces of a text of some lengths.
func cutIn(whole string, size int) []string {
	var list []string
	for len(whole) > size {
		list, whole = append(list, whole[:size]), whole[size:]
	}
	return append(list, whole)
}

// Wherever what a session is fed is cut, the same server comes of it: whole, byte by byte, and in drawn pieces, with
// requests that close the session among them, and texts that do not end.
func TestPromise15Cuts(t *testing.T) {
	r := rand.New(rand.NewSource(151))
	closed := 0
	for n := range 120 {
		w := newServerRun(t, r, map[string]int{})
		for range 20 {
			w.step()
		}
		i := r.Intn(3)
		if !w.v.Sessions[i].Open {
			w.v, _ = impl.OpenSession(w.v, i)
		}
		fed := ""
		for range 1 + r.Intn(7) {
			method, params := drawnRequest(r)
			fed += request(7, method, params) + drawn(r, "", " ", "\n\t")
		}
		fed += drawn(r, "", "", `{"id":1,"`, "[", "x", "[]", "{}") + drawn(r, "", "", request(8, "echo", "[]"))
		want, code := impl.FeedSession(w.v, i, fed)
		if code != impl.OK {
			t.Fatalf("FeedSession of %q has the code %d", fed, code)
		}
		if !want.Sessions[i].Open {
			closed++
		}
		// byte by byte takes its time
		for _, pieces := range [][]string{cutIn(fed, 1+40*min(n%5, 1)), someCut(r, fed), someCut(r, fed), someCut(r, fed)} {
			fedInPieces(t, w.v, i, pieces, want)
		}
	}
	if closed < 20 || closed > 100 {
		t.Errorf("%d of 120 sessions were closed", closed)
	}
}

func fedInPieces(t *testing.T, v impl.Server, i int, pieces []string, want impl.Server) {
	t.Helper()
	for _, piece := range pieces {
		made, code := impl.FeedSession(v, i, piece)
		if (code == impl.OK) != v.Sessions[i].Open || code != impl.OK && (code != impl.ErrClosed || !alike(made, v)) {
			t.Fatalf("FeedSession of %q has the code %d", piece, code)
		}
		v = made
	}
	if !alike(v, want) {
		t.Fatalf("%.300q make\n%v, not\n%v", pieces, v, want)
	}
}

// Pieces of other sessions between those of one do not matter either: each request is done when its last byte comes.
func TestPromise15PiecesOfAllSessions(t *testing.T) {
	r := rand.New(rand.NewSource(152))
	for range 200 {
		whole := serverOf(t, 0, 1, 2)
		cut := serverOf(t, 0, 1, 2)
		var left [3]string
		for range 20 {
			i := r.Intn(3)
			method, params := drawnRequest(r)
			asked := request(1, method, params)
			if !whole.v.Sessions[i].Open {
				whole.opens(i)
				cut.opens(i)
				left[i] = ""
			}
			// all others have some of what they ask for next come first
			for k := range 3 {
				if k != i && left[k] == "" && whole.v.Sessions[k].Open {
					method, params := drawnRequest(r)
					next := request(2, method, params)
					place := 1 + r.Intn(len(next)-1)
					cut.fed(k, next[:place])
					left[k] = next
				}
			}
			if left[i] != "" {
				asked = left[i]
				cut.fed(i, asked[len(cut.v.Sessions[i].Framer.Buf):])
			} else {
				cut.fed(i, asked)
			}
			whole.fed(i, asked)
			left[i] = ""
			bare := serverAgain(cut.v)
			for k := range bare.Sessions {
				bare.Sessions[k].Framer = impl.Framer{}
				if !bare.Sessions[k].Open {
					left[k] = ""
				}
			}
			if !alike(bare, whole.v) {
				t.Fatalf("cut among others:\n%v, not\n%v", bare, whole.v)
			}
			if r.Intn(3) == 0 {
				taken := slices.Clone(whole.v.Sessions[i].Out)
				if whole.v.Sessions[i].Open {
					whole.hears(i, taken...)
					cut.hears(i, taken...)
				}
			}
		}
	}
}

// A transaction that asserts a lock is done just when its session owns it by OwnedBy: of all pairs of queues of two locks,
// each session, by both ways in.
func TestPromise15AssertedLocks(t *testing.T) {
	done, refused := 0, 0
	for _, a := range rightQueues() {
		for _, b := range rightQueues() {
			x := serverOf(t, 0, 1, 2)
			x.v.Locks = queues{"a": a, "b": b}.list()
			for i := range 3 {
				owned, _ := impl.OwnedBy(x.v.Locks, i)
				for _, name := range []string{"a", "b", "c"} {
					params := fmt.Sprintf(`[{"op":"insert","table":"note"},{"op":"assert","lock":%q},{"op":"comment"}]`, name)
					v, code := impl.FeedSession(x.v, i, request(1, "transact", params))
					other, _ := impl.ServerDo(x.v, i, impl.Request{Id: 1, Method: "transact", Params: said(params).Items})
					want, made := replyTo(1, `[{"uuid":["uuid",1]},{"error":"owner"}]`), 0
					refused++
					if slices.Contains(owned, name) {
						want, made = replyTo(1, `[{"uuid":["uuid",1]},{},{}]`), 1
						done, refused = done+1, refused-1
					}
					if code != impl.OK || !alike(v, other) || !slices.Equal(v.Sessions[i].Out, []string{want}) || len(v.Store.Tables[0]) != made {
						t.Errorf("locks %v: session %d asserts %q: %q, %d, and %q", x.v.Locks, i, name, v.Sessions[i].Out, code, other.Sessions[i].Out)
					}
				}
			}
		}
	}
	if done < 200 || refused < 200 {
		t.Errorf("%d are done, %d refused", done, refused)
	}
}

// handedServer is what the calls of this chapter are given.
type handedServer struct {
	Server  impl.Server
	Session int
	Text    string
	Request impl.Request
}

// serverOut is what they answer.
type serverOut struct {
	New, Opened, Closed, Fed, Took, Done impl.Server
	Taken                                []string
	Right                                bool
	Codes                                []int
}

func servedOut(h handedServer) serverOut {
	out := serverOut{Codes: make([]int, 6)}
	out.New, out.Codes[0] = impl.NewServer(h.Server.Schema)
	out.Opened, out.Codes[1] = impl.OpenSession(h.Server, h.Session)
	out.Closed, out.Codes[2] = impl.CloseSession(h.Server, h.Session)
	out.Fed, out.Codes[3] = impl.FeedSession(h.Server, h.Session, h.Text)
	out.Took, out.Taken, out.Codes[4] = impl.TakeOut(h.Server, h.Session)
	out.Done, out.Codes[5] = impl.ServerDo(h.Server, h.Session, h.Request)
	out.Right = impl.ServerOK(h.Server)
	return out
}

// serverAnswers are those of all calls; empty lists and nil are told alike.
func serverAnswers(h handedServer) serverOut {
	return again(reflect.ValueOf(servedOut(h)), true, 0).Interface().(serverOut)
}

func handedServerAgain(h handedServer, bare bool, room int) handedServer {
	return again(reflect.ValueOf(h), bare, room).Interface().(handedServer)
}

// handedRequests are of all methods, and texts with one of them in them.
func handedRequests() []handedServer {
	var all []handedServer
	for _, asked := range [][2]string{{"echo", `[[1,["a"]],{"a":[1],"b":{}}]`}, {"echo", "[]"}, {"get_schema", "[]"}, {"transact", `[{"op":"insert","table":"note","row":{"about":["set",[["uuid",2],["uuid",7]]]}},{"op":"update","table":"switch","row":{"count":4}},{"op":"select","table":"port"}]`}, {"transact", `[{"op":"delete","table":"switch"}]`}, {"transact", `[{"op":"abort"}]`},
		{"transact", `[{"op":"x"}]`}, {"monitor", `["n",{"table":"switch","columns":["name","ports"],"where":[["ports","includes",["uuid",2]]]}]`}, {"monitor", `["m",{"table":"note"}]`}, {"monitor_cancel", `["m"]`}, {"lock", `["b"]`}, {"lock", `["d"]`}, {"steal", `["b"]`}, {"unlock", `["b"]`}, {"unlock", `["c"]`}, {"none", "[1]"}} {
		all = append(all, handedServer{Text: request(3, asked[0], asked[1]), Request: impl.Request{Id: 3, Method: asked[0], Params: said(asked[1]).Items}})
	}
	all = append(all, handedServer{Text: "x", Request: impl.Request{Method: "\n"}}, handedServer{Text: "[]", Request: impl.Request{Id: 1000000001}}, handedServer{Text: strings.Repeat(" ", impl.MaxText+1), Request: impl.Request{Params: make([]impl.Json, 400)}}, handedServer{Text: `{"id":1,"method":"ec`, Request: impl.Request{Method: "echo", Params: numbers(397).Items}})
	return all
}

// allHandedServers are arguments of all kinds: right and wrong servers, sessions that are open, are not and are none.
func allHandedServers() []handedServer {
	servers := []impl.Server{fullServer(), fullServer(), fullServer(), {}, fullServer()}
	servers[1].Sessions[0].Framer = impl.Framer{}
	servers[1].Sessions[0].Out = slices.Repeat([]string{"1"}, 12)
	servers[1].Sessions[1].Out = slices.Repeat([]string{"1"}, 12)
	servers[2].Sessions[2].Open = true
	servers[2].Sessions[0].Framer = impl.Framer{}
	servers[2].Locks[0].Queue = []int{2, 1, 0}
	servers[4].Store.Next = 1
	var all []handedServer
	for _, h := range handedRequests() {
		for _, v := range servers {
			for i := range 4 {
				h.Server, h.Session = v, i
				all = append(all, h)
			}
		}
	}
	return all
}

func TestPromise1ServersAlikeAnswers(t *testing.T) {
	given := allHandedServers()
	other := given[len(given)/3]
	for _, h := range given {
		first := serverAnswers(h)
		servedOut(other)
		if second := serverAnswers(handedServerAgain(h, false, 0)); !reflect.DeepEqual(first, second) {
			t.Errorf("%s: %s, then %s", brief(h), brief(first), brief(second))
		}
		if bare := serverAnswers(handedServerAgain(h, true, 0)); !reflect.DeepEqual(first, bare) {
			t.Errorf("%s: %s, with nil for empty lists %s", brief(h), brief(first), brief(bare))
		}
	}
}

func TestPromise1ServersStay(t *testing.T) {
	for _, h := range allHandedServers() {
		roomy := handedServerAgain(h, false, 3)
		before := wholeOf(reflect.ValueOf(roomy))
		answers := serverAnswers(roomy)
		if after := wholeOf(reflect.ValueOf(roomy)); after != before {
			t.Fatalf("%.500s was changed: %.500s", before, after)
		}
		if tight := serverAnswers(h); !reflect.DeepEqual(answers, tight) {
			t.Errorf("%s: room changes an answer", brief(h))
		}
	}
}

// serverIsNew tells that no answer shares memory with what was given, nor two lists of one, nor two answers.
func serverIsNew(t *testing.T, h handedServer) {
	t.Helper()
	isNew(t, "what the calls answer of "+brief(h), servedOut(h), h, servedOut(h))
}

func TestPromise1ServersAreNew(t *testing.T) {
	for _, h := range allHandedServers() {
		serverIsNew(t, h)
		serverIsNew(t, handedServerAgain(h, false, 3))
	}
}

// Lists of a server may be one list, or begin where another one does.
func TestPromise1ServersThatShareMemory(t *testing.T) {
	queue := []int{0, 1, 2}
	about := ids(2, 7)
	names := columnsOf("name", "about")
	seen := []impl.Monitor{monitor("note", names, cond("about", impl.CoIncludes, about...)), monitor("note", names[:1])}
	seen[1].Name = "n"
	waiting := []string{"1", "null", "2"}
	s := impl.Session{Open: true, Out: waiting, Monitors: seen}
	x := smallStore()
	x.Tables[0][0].Cells[1], x.Tables[2][1].Cells[2], x.Tables[2][0].Cells[2] = about, about, about[:1]
	for _, asked := range handedRequests() {
		for i := range 3 {
			h := asked
			h.Session = i
			h.Server = impl.Server{Schema: impl.PlainSchema(), Store: x, Locks: locks(lock("a", queue...), lock("b", queue[1:]...), lock("c", queue[:2]...)), Sessions: []impl.Session{s, s, s}}
			if len(h.Request.Params) > 1 {
				h.Request.Params[1] = h.Request.Params[0]
			}
			before := wholeOf(reflect.ValueOf(h))
			apart := serverAnswers(handedServerAgain(h, false, 0))
			if shared := serverAnswers(h); !reflect.DeepEqual(shared, apart) || !shared.Right {
				t.Errorf("%s: shared memory changes an answer: %s, not %s", brief(h), brief(shared), brief(apart))
			}
			serverIsNew(t, h)
			if after := wholeOf(reflect.ValueOf(h)); after != before {
				t.Fatalf("%s was changed: %s", before, after)
			}
		}
	}
}

// What is written into an answer changes neither what was given nor the next answer.
func TestPromise1WhoWritesIntoServers(t *testing.T) {
	for _, h := range allHandedServers() {
		want := serverAnswers(handedServerAgain(h, false, 0))
		before := wholeOf(reflect.ValueOf(h))
		wiped(reflect.ValueOf(servedOut(h)))
		if second := serverAnswers(h); !reflect.DeepEqual(second, want) || wholeOf(reflect.ValueOf(h)) != before {
			t.Errorf("%s: a spoilt answer changes the next one: %s, not %s", brief(h), brief(second), brief(want))
		}
	}
}

func TestPromise1ServersAtTheSameTime(t *testing.T) {
	given := allHandedServers()
	var all sync.WaitGroup
	for range 4 {
		all.Go(func() {
			for _, h := range given {
				first := serverAnswers(h)
				if second := serverAnswers(h); !reflect.DeepEqual(first, second) {
					t.Errorf("%s: %s, then %s", brief(h), brief(first), brief(second))
				}
			}
		})
	}
	all.Wait()
}

// Whatever a call has set going has come to its end when it answers: only what is on its way out may be counted yet.
func TestPromise1ServersLeaveNothingGoing(t *testing.T) {
	before := runtime.NumGoroutine()
	for _, h := range allHandedServers() {
		servedOut(h)
	}
	for wait := 0; runtime.NumGoroutine() > before && wait < 500; wait++ {
		time.Sleep(time.Millisecond)
	}
	if after := runtime.NumGoroutine(); after > before {
		t.Errorf("%d goroutines, then %d", before, after)
	}
}
