package tests

import (
	"fmt"
	"slices"
	"strings"
	"testing"

	"loop.example/g00524/impl"
)

// fill leaves so many texts waiting for a session.
func (x *served) fill(i, count int) {
	x.v.Sessions[i].Out = slices.Repeat([]string{"0"}, count)
}

// hearsLast tells what waits for a session behind what it was filled with, and takes all.
func (x *served) hearsLast(i int, want ...string) {
	x.Helper()
	was := x.v.Sessions[i].Out
	filled := slices.IndexFunc(was, func(told string) bool { return told != "0" })
	if filled < 0 {
		filled = len(was)
	}
	x.hears(i, append(slices.Clone(was[:filled]), want...)...)
}

// anyRequests are of all methods, with codes and without, and do nothing to other sessions.
func anyRequests() map[string]string {
	return map[string]string{
		request(1, "echo", "[7]"): replyTo(1, "[7]"), request(1, "list_dbs", "[]"): replyTo(1, `["net"]`), request(1, "none", "[]"): refusal(1, impl.ErrMethod), request(1, "lock", "[]"): refusal(1, impl.ErrForm),
		request(1, "transact", `[{"op":"comment"}]`): replyTo(1, "[{}]"), request(1, "transact", `[{"op":"abort"}]`): replyTo(1, `[{"error":"abort"}]`), request(1, "transact", "[1]"): refusal(1, impl.ErrForm),
		request(1, "monitor", `["m",{"table":"note"}]`): replyTo(1, "[]"), request(1, "monitor_cancel", `["m"]`): refusal(1, impl.ErrNone), request(1, "lock", `["l"]`): replyTo(1, `{"locked":true}`), request(1, "steal", `["l"]`): replyTo(1, `{"locked":true}`), request(1, "unlock", `["l"]`): refusal(1, impl.ErrNone),
	}
}

// A session that has one text less than MaxOut is sent a reply; one that has MaxOut must be closed, and what comes behind
// is lost.
func TestRoomForReplies(t *testing.T) {
	for asked, want := range anyRequests() {
		for i := range 3 {
			x := serverOf(t, 0, 1, 2)
			x.fill(i, 11)
			x.fed(i, asked)
			x.areOpen(0, 1, 2)
			x.hearsLast(i, want)
			x = serverOf(t, 0, 1, 2)
			x.fill(i, 12)
			x.fed(i, asked)
			x.areOpen(without([]int{0, 1, 2}, i)...)
			x.haveLocks()
			x = serverOf(t, 0, 1, 2)
			x.fill(i, 11)
			x.fed(i, asked, request(2, "echo", "[]"), request(3, "transact", `[{"op":"insert","table":"note"}]`), "{}")
			x.areOpen(without([]int{0, 1, 2}, i)...)
			if x.v.Store.Next != 1 {
				t.Errorf("%s: what comes behind the closing is done", asked)
			}
		}
	}
}

// Thirteen replies do not wait: what is done ahead of the closing stays, also what the one that has no room asks for.
func TestRoomForManyReplies(t *testing.T) {
	x := serverOf(t, 0)
	note := request(1, "transact", `[{"op":"insert","table":"note"},{"op":"delete","table":"note"}]`)
	x.fed(0, strings.Repeat(note, 12))
	x.areOpen(0)
	x.fed(0, strings.Repeat(note, 2))
	x.areOpen()
	if x.v.Store.Next != 14 {
		t.Errorf("Next is %d", x.v.Store.Next)
	}
	x.opens(0)
	x.fed(0, strings.Repeat(note, 20))
	x.areOpen()
	if x.v.Store.Next != 27 {
		t.Errorf("Next is %d", x.v.Store.Next)
	}
}

// watchers answers a server of open sessions, some of which have a monitor of notes.
func watchers(t *testing.T, list ...int) *served {
	t.Helper()
	x := serverOf(t, 0, 1, 2)
	for _, i := range list {
		x.answered(i, "monitor", `["m",{"table":"note","columns":["name"]}]`, "[]")
	}
	return x
}

const noteAsked = `[{"op":"insert","table":"note","row":{"name":"n"}}]`

// noteSeen and noteDone are what is told of the first note, to who watches and to who asked for it.
func noteSeen() string { return notice("update", `["m",[{"new":{"name":"n"},"old":null,"uuid":1}]]`) }

func noteDone() string { return replyTo(1, `[{"uuid":["uuid",1]}]`) }

func TestRoomForUpdates(t *testing.T) {
	for _, count := range []int{0, 11, 12} {
		x := watchers(t, 1, 2)
		x.fill(1, count)
		x.asks(0, "transact", noteAsked)
		x.hears(0, noteDone())
		x.hears(2, noteSeen())
		if count == 12 {
			x.areOpen(0, 2)
			continue
		}
		x.areOpen(0, 1, 2)
		x.hearsLast(1, noteSeen())
	}
	x := watchers(t, 0, 1, 2)
	x.fill(0, 10)
	x.asks(0, "transact", noteAsked)
	x.hearsLast(0, noteSeen(), noteDone())
	for _, count := range []int{11, 12} {
		x := watchers(t, 0, 1, 2)
		x.fill(0, count)
		x.asks(0, "transact", noteAsked)
		x.areOpen(1, 2)
		x.hears(1, noteSeen())
		x.hears(2, noteSeen())
		if len(x.v.Store.Tables[0]) != 1 {
			t.Errorf("the note is not there")
		}
	}
}

// Of two monitors of a session the first is told if there is room for one, but the session must be closed.
func TestRoomForUpdatesOfTwoMonitors(t *testing.T) {
	for count := range 13 {
		x := watchers(t, 1)
		x.answered(1, "monitor", `["n",{"table":"note"}]`, "[]")
		x.fill(1, count)
		x.asks(0, "transact", noteAsked)
		x.hears(0, noteDone())
		if count > 10 {
			x.areOpen(0, 2)
			continue
		}
		x.hearsLast(1, noteSeen(), notice("update", `["n",[{"new":{},"old":null,"uuid":1}]]`))
	}
}

func TestRoomForWhatLocksTell(t *testing.T) {
	for _, count := range []int{0, 11, 12} {
		x := serverOf(t, 0, 1, 2)
		for _, i := range []int{1, 2} {
			x.asks(i, "lock", `["l"]`)
			x.fill(i, count)
		}
		x.answered(0, "steal", `["l"]`, `{"locked":true}`)
		if count == 12 {
			x.areOpen(0, 2)
			x.haveLocks(lock("l", 0, 2))
		} else {
			x.hearsLast(1, notice("stolen", `["l"]`))
			x.haveLocks(lock("l", 0, 1, 2))
		}
		x.fill(2, 0)
		x.asks(0, "unlock", `["l"]`)
		if count == 12 {
			x.hears(2, notice("locked", `["l"]`))
		}
		x.hears(0, replyTo(1, "{}"))
	}
	for _, count := range []int{0, 11, 12} {
		x := serverOf(t, 0, 1, 2)
		for _, i := range []int{0, 1, 2} {
			x.asks(i, "lock", `["l"]`)
			x.fill(i, 0)
		}
		x.fill(1, count)
		x.answered(0, "unlock", `["l"]`, "{}")
		if count == 12 {
			x.areOpen(0, 2)
			x.hears(2, notice("locked", `["l"]`))
			x.haveLocks(lock("l", 2))
		} else {
			x.hearsLast(1, notice("locked", `["l"]`))
			x.hears(2)
			x.haveLocks(lock("l", 1, 2))
		}
	}
}

// A session that is closed, of itself, by its stream or by what it asks, leaves all locks; who owns them then is told so.
func TestLocksOfSessionsThatAreClosed(t *testing.T) {
	for what, closes := range map[string]func(x *served){
		"CloseSession": func(x *served) { x.closes(1) },
		"its stream":   func(x *served) { x.fed(1, "x") },
		"no request":   func(x *served) { x.fed(1, "[]") },
		"no room":      func(x *served) { x.fill(1, 12); x.asks(1, "echo", "[]") },
	} {
		x := serverOf(t, 0, 1, 2)
		x.v.Locks = locks(lock("a", 1), lock("b", 1, 0), lock("c", 0, 1), lock("d", 2, 0, 1), lock("e", 1, 2, 0), lock("f", 2, 1, 0))
		closes(x)
		x.areOpen(0, 2)
		x.haveLocks(lock("b", 0), lock("c", 0), lock("d", 2, 0), lock("e", 2, 0), lock("f", 2, 0))
		x.hears(0, notice("locked", `["b"]`))
		x.hears(2, notice("locked", `["e"]`))
		if t.Failed() {
			t.Fatalf("closed by %s", what)
		}
	}
}

// Who can't be told that it owns a lock must be closed, too; and so who can't be told of that.
func TestSessionsThatMustBeClosedHereby(t *testing.T) {
	for full := range 4 {
		x := serverOf(t, 0, 1, 2)
		x.v.Locks = locks(lock("a", 0, 1, 2), lock("b", 1, 2))
		x.fill(1, 12*(full%2))
		x.fill(2, 12*(full/2))
		x.closes(0)
		switch full {
		case 0:
			x.hears(1, notice("locked", `["a"]`))
			x.hears(2)
			x.haveLocks(lock("a", 1, 2), lock("b", 1, 2))
		case 1:
			x.areOpen(2)
			x.hears(2, notice("locked", `["a"]`), notice("locked", `["b"]`))
			x.haveLocks(lock("a", 2), lock("b", 2))
		case 2:
			x.areOpen(1, 2)
			x.hears(1, notice("locked", `["a"]`))
		case 3:
			x.areOpen()
			x.haveLocks()
		}
	}
	x := serverOf(t, 0, 1, 2)
	x.v.Locks = locks(lock("a", 0, 1), lock("b", 0, 2), lock("c", 1, 2))
	x.fill(1, 11)
	x.fill(2, 11)
	x.closes(0)
	x.areOpen(1, 2)
	x.hearsLast(1, notice("locked", `["a"]`))
	x.hearsLast(2, notice("locked", `["b"]`))
	x.v.Locks = locks(lock("c", 1, 2), lock("d", 1, 2))
	x.fill(2, 11)
	x.closes(1)
	x.areOpen()
}

// Sessions that must be closed are closed in the order in which they came to be so: who owns their locks then hears of
// the first one's first, behind its own reply.
func TestFirstComeFirst(t *testing.T) {
	owned := locks(lock("a", 2, 0), lock("b", 1, 0))
	x := watchers(t, 1, 2)
	x.v.Locks = owned
	x.fill(1, 12)
	x.fill(2, 12)
	x.asks(0, "transact", noteAsked)
	x.areOpen(0)
	x.hears(0, noteDone(), notice("locked", `["b"]`), notice("locked", `["a"]`))
	x.haveLocks(lock("a", 0), lock("b", 0))
	// the one that asks has no room for its reply, behind one that has none for its update
	x = watchers(t, 2)
	x.v.Locks = locks(lock("a", 0, 1), lock("b", 2, 1))
	x.fill(0, 12)
	x.fill(2, 12)
	x.asks(0, "transact", noteAsked)
	x.areOpen(1)
	x.hears(1, notice("locked", `["b"]`), notice("locked", `["a"]`))
	// it has none for its own update, ahead of the other one
	x = watchers(t, 0, 1)
	x.v.Locks = locks(lock("a", 1, 2), lock("b", 0, 2))
	x.fill(0, 12)
	x.fill(1, 12)
	x.asks(0, "transact", noteAsked)
	x.areOpen(2)
	x.hears(2, notice("locked", `["b"]`), notice("locked", `["a"]`))
	// who must be closed first is closed ahead of one that must be since it was
	x = watchers(t, 0, 1)
	x.v.Locks = locks(lock("a", 1, 2), lock("b", 0, 1, 2), lock("c", 0, 2))
	x.fill(0, 12)
	x.fill(1, 12)
	x.asks(0, "transact", noteAsked)
	x.areOpen(2)
	x.hears(2, notice("locked", `["c"]`), notice("locked", `["a"]`), notice("locked", `["b"]`))
}

// A session that must be closed is open until the reply is sent: it owns its locks while others ask.
func TestClosedBehindTheReply(t *testing.T) {
	x := serverOf(t, 0, 1, 2)
	x.v.Locks = locks(lock("l", 1, 2))
	x.fill(1, 12)
	x.asks(0, "steal", `["l"]`)
	x.areOpen(0, 2)
	x.hears(0, replyTo(1, `{"locked":true}`))
	x.hears(2)
	x.haveLocks(lock("l", 0, 2))
	x.fed(0, request(2, "unlock", `["l"]`), request(3, "lock", `["l"]`), request(4, "transact", `[{"op":"assert","lock":"l"}]`))
	x.hears(0, replyTo(2, "{}"), replyTo(3, `{"locked":false}`), replyTo(4, `[{"error":"owner"}]`))
	x.hears(2, notice("locked", `["l"]`))
}

// wideSchema has tables whose rows are of many parts.
func wideSchema() impl.Schema {
	numbersOfIt := func(name string) impl.Column { return called(intColumn(0, 8, 0, 9), name) }
	wide := table("wide", numbersOfIt("a"), numbersOfIt("b"), numbersOfIt("c"), numbersOfIt("d"), numbersOfIt("e"), numbersOfIt("f"))
	small := table("small", numbersOfIt("a"))
	wide.Root, small.Root = true, true
	return schema(small, wide)
}

// wideRow has so many atoms in its cells: of each cell as many values as it has atoms, and three more.
func wideRow(id, count int) impl.Row {
	r := row(id)
	for range 6 {
		some := min(count, 8)
		if count == 9 {
			some = 7 // one atom alone would be told otherwise
		}
		r.Cells = append(r.Cells, ints(0, some))
		count -= some
	}
	return r
}

// wideServer answers one with open sessions and six rows in the wide table: five with all atoms that they may have, which
// are 67 values each, and one with some.
func wideServer(t *testing.T, count int) *served {
	t.Helper()
	v, _ := impl.NewServer(wideSchema())
	x := &served{t, v}
	x.opens(0)
	x.opens(1)
	for id := 1; id <= 5; id++ {
		x.v.Store.Tables[1] = append(x.v.Store.Tables[1], wideRow(id, 48))
	}
	x.v.Store.Tables[1] = append(x.v.Store.Tables[1], wideRow(6, count))
	x.v.Store.Next = 20
	return x
}

const wideColumns = `"columns":["a","b","c","d","e","f"]`

// An update of too many values is lost, and who should have it must be closed, though it has room; what comes behind it is
// sent. Six rows that went are 6 values, 4 of each row, and those of the cells.
func TestUpdatesOfTooManyParts(t *testing.T) {
	for count := 20; count <= 25; count++ {
		x := wideServer(t, count)
		x.v.Locks = locks(lock("l", 1, 0))
		x.answered(1, "monitor", `["m",{"table":"wide","initial":false,`+wideColumns+`}]`, "[]")
		x.answered(1, "monitor", `["n",{"table":"small"}]`, "[]")
		x.asks(0, "transact", `[{"op":"delete","table":"wide"},{"op":"insert","table":"small"}]`)
		done := replyTo(1, `[{"count":6},{"uuid":["uuid",20]}]`)
		if count > 22 {
			x.areOpen(0)
			x.haveLocks(lock("l", 0))
			x.hears(0, done, notice("locked", `["l"]`))
			continue
		}
		x.areOpen(0, 1)
		x.hears(0, done)
		told := x.v.Sessions[1].Out
		if len(told) != 2 || told[1] != notice("update", `["n",[{"new":{},"old":null,"uuid":20}]]`) {
			t.Fatalf("%d atoms in the last row: %.300q", count, told)
		}
		if parts, _ := impl.JsonNodes(said(told[0])); parts != 400-22+count {
			t.Errorf("%d atoms in the last row: an update has %d parts", count, parts)
		}
	}
}

// So is a reply. One of a request that has come has as many values as that; one that is done may have some more.
func TestRepliesOfTooManyParts(t *testing.T) {
	for count := 394; count <= 398; count++ {
		x := serverOf(t, 0, 1)
		x.v.Locks = locks(lock("l", 0, 1))
		x.does(0, impl.Request{Id: 5, Method: "echo", Params: numbers(count).Items})
		if count > 396 {
			x.areOpen(1)
			x.hears(1, notice("locked", `["l"]`))
			continue
		}
		told, _ := impl.PrintJson(numbers(count))
		x.hears(0, replyTo(5, told))
	}
}

// What a monitor sees at first may be of too many values for a reply: 4, 4 of each row, and those of the cells.
func TestViewsOfTooManyParts(t *testing.T) {
	for count := 22; count <= 27; count++ {
		x := wideServer(t, count)
		x.fed(0, request(1, "monitor", `["m",{"table":"wide",`+wideColumns+`}]`), request(2, "list_dbs", "[]"))
		if count > 24 {
			x.areOpen(1)
			continue
		}
		told := x.v.Sessions[0].Out
		if len(told) != 2 || told[1] != replyTo(2, `["net"]`) {
			t.Fatalf("%d atoms in the last row: %.300q", count, told)
		}
		if parts, _ := impl.JsonNodes(said(told[0])); parts != 400-24+count {
			t.Errorf("%d atoms in the last row: a reply has %d parts", count, parts)
		}
	}
}

// A result has 2 values, one of each row, and those of the cells; 4 more make the reply. Rows of too many for a result are
// ErrMany, which is what is replied; those of too many for the reply alone close the session. In either case the
// transaction is done, and others are told so.
func TestResultsOfTooManyParts(t *testing.T) {
	insert, all := `{"op":"insert","table":"small","row":{"a":1}}`, `{"op":"select","table":"wide"}`
	seen := notice("update", `["m",[{"new":{"a":1},"old":null,"uuid":20}]]`)
	for count := 37; count <= 48; count++ {
		x := wideServer(t, count)
		for i := range 2 {
			x.answered(i, "monitor", `["m",{"table":"small","columns":["a"]}]`, "[]")
		}
		// an insert is told by 4 values
		x.fed(0, request(1, "transact", "["+insert+","+all+"]"), request(2, "echo", "[]"))
		x.hears(1, seen)
		if len(x.v.Store.Tables[0]) != 1 || x.v.Store.Next != 21 {
			t.Errorf("%d atoms in the last row: the store is %s", count, brief(x.v.Store.Tables[0]))
		}
		switch {
		case count > 44:
			x.hears(0, seen, refusal(1, impl.ErrMany), replyTo(2, "[]"))
		default:
			x.areOpen(1)
		}
	}
	for count := 33; count <= 48; count++ {
		x := wideServer(t, count)
		x.fed(0, request(1, "transact", "["+all+"]"), request(2, "echo", "[]"))
		told := x.v.Sessions[0].Out
		switch {
		case count > 44:
			x.hears(0, refusal(1, impl.ErrMany), replyTo(2, "[]"))
		case count > 40:
			x.areOpen(1)
		default:
			if len(told) != 2 {
				t.Fatalf("%d atoms in the last row: %.300q", count, told)
			}
			if parts, _ := impl.JsonNodes(said(told[0])); parts != 400-40+count {
				t.Errorf("%d atoms in the last row: a reply has %d parts", count, parts)
			}
		}
	}
}

// A session that is closed is zero, and open again it is new: no text that had begun, nothing that waits, no monitor.
func TestSessionsThatAreOpenedAgain(t *testing.T) {
	x := &served{t, fullServer()}
	x.closes(0)
	x.areOpen(1)
	x.hears(1)
	x.haveLocks(lock("b", 1), lock("c", 1))
	x.opens(0)
	x.asks(0, "transact", `[{"op":"insert","table":"note","row":{"name":"x"}}]`)
	x.hears(0, replyTo(1, `[{"uuid":["uuid",20]}]`))
	x.hears(1, notice("update", `["m",[{"new":{"name":"x"},"old":null,"uuid":20}]]`))
	for k, name := range []string{"a", "m", "z"} {
		x.answered(0, "monitor", fmt.Sprintf(`["%s",{"table":"note","initial":false}]`, name), "[]")
		if len(x.v.Sessions[0].Monitors) != k+1 {
			t.Errorf("there are %s", brief(x.v.Sessions[0].Monitors))
		}
	}
}
