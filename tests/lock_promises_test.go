package tests

import (
	"fmt"
	"maps"
	"math"
	"math/rand"
	"reflect"
	"slices"
	"strings"
	"sync"
	"testing"

	"loop.example/g00524/impl"
)

// queues is who stands at the locks that there are, the owner first: what chapter 13 of the document says of them, told
// once more.
type queues map[string][]int

func queuesOf(list []impl.Lock) queues {
	q := queues{}
	for _, x := range list {
		q[x.Name] = x.Queue
	}
	return q
}

// list answers the locks that somebody stands at, their names rising.
func (q queues) list() []impl.Lock {
	var list []impl.Lock
	for _, name := range slices.Sorted(maps.Keys(q)) {
		if len(q[name]) > 0 {
			list = append(list, lock(name, q[name]...))
		}
	}
	return list
}

// without answers the others of a queue, as they stand.
func without(queue []int, session int) []int {
	var others []int
	for _, other := range queue {
		if other != session {
			others = append(others, other)
		}
	}
	return others
}

// ownersOf answers who owns each lock.
func (q queues) ownersOf() map[string]int {
	owners := map[string]int{}
	for name, queue := range q {
		if len(queue) > 0 {
			owners[name] = queue[0]
		}
	}
	return owners
}

func (q queues) hasRoom(name string) bool { return len(q[name]) > 0 || len(q.list()) < 6 }

// takes tells of TakeLock, and answers whether the session owns the lock, and the code.
func (q queues) takes(session int, name string) (bool, int) {
	switch {
	case !q.hasRoom(name):
		return false, impl.ErrFull
	case slices.Contains(q[name], session):
		return false, impl.ErrTwice
	}
	q[name] = append(slices.Clone(q[name]), session)
	return len(q[name]) == 1, impl.OK
}

// steals tells of StealLock, and answers who is told so, and the code.
func (q queues) steals(session int, name string) ([]impl.Told, int) {
	if !q.hasRoom(name) {
		return nil, impl.ErrFull
	}
	owner, there := q.ownersOf()[name]
	q[name] = append([]int{session}, without(q[name], session)...)
	if there && owner != session {
		return tells(stolen(owner, name)), impl.OK
	}
	return nil, impl.OK
}

// leaves tells of LeaveLock, and answers who is told so, and the code.
func (q queues) leaves(session int, name string) ([]impl.Told, int) {
	if !slices.Contains(q[name], session) {
		return nil, impl.ErrNone
	}
	was := q.ownersOf()[name]
	q[name] = without(q[name], session)
	if owner, there := q.ownersOf()[name]; there && owner != was {
		return tells(locked(owner, name)), impl.OK
	}
	return nil, impl.OK
}

// asTheDocumentSays holds all calls of a session and a name on right locks against the document's words.
func asTheDocumentSays(t *testing.T, what string, list []impl.Lock, session int, name string) {
	t.Helper()
	q := queuesOf(list)
	owns, code := q.takes(session, name)
	takenIs(t, what, list, session, name, q.list(), owns, code)
	q = queuesOf(list)
	told, code := q.steals(session, name)
	stealIs(t, what, list, session, name, q.list(), told, code)
	q = queuesOf(list)
	told, code = q.leaves(session, name)
	leaveIs(t, what, list, session, name, q.list(), told, code)
	allAsTheDocumentSays(t, what, list, session)
}

// allAsTheDocumentSays does so of the calls that are given no name.
func allAsTheDocumentSays(t *testing.T, what string, list []impl.Lock, session int) {
	t.Helper()
	q := queuesOf(list)
	var heard []impl.Told
	var owned []string
	for _, name := range slices.Sorted(maps.Keys(q)) {
		if q[name][0] == session {
			owned = append(owned, name)
		}
		told, _ := q.leaves(session, name)
		heard = append(heard, told...)
	}
	leaveAllIs(t, what, list, session, q.list(), heard, impl.OK)
	ownedIs(t, what, list, session, owned, impl.OK)
}

// rightQueues are all that a lock may have, and one of nobody.
func rightQueues() [][]int {
	all := [][]int{nil}
	for a := range impl.Sessions {
		all = append(all, []int{a})
		for b := range impl.Sessions {
			for c := range impl.Sessions {
				if a != b && b != c && a != c {
					all = append(all, []int{a, b}, []int{a, b, c})
				}
			}
		}
	}
	return all
}

// All pairs of queues of two locks, alone and among four others, each session, and names ahead of them, between, behind
// and of others.
func TestPromise13AllQueuesOfTwoLocks(t *testing.T) {
	others := queues{"B": {2}, "c": {0, 2}, "cc": {1, 2, 0}, "x": {1}}
	for _, b := range rightQueues() {
		for _, d := range rightQueues() {
			alone := queues{"b": b, "d": d}
			among := maps.Clone(others)
			maps.Copy(among, alone)
			for session := range impl.Sessions {
				for _, name := range []string{"a", "b", "c", "d", "e"} {
					asTheDocumentSays(t, "two locks", alone.list(), session, name)
				}
				for _, name := range []string{"b", "c", "d", "y"} {
					asTheDocumentSays(t, "six locks", among.list(), session, name)
				}
			}
		}
	}
}

// stand is a session that stands at a lock.
type stand struct {
	name    string
	session int
}

// lockRun is a run of calls. Beside the locks it keeps when each session came to each: who steals came ahead of all that
// are there, who takes behind them.
type lockRun struct {
	list        []impl.Lock
	came        map[stand]int
	first, last int
	cases       map[string]int
}

// queueOf answers who stands at a lock, in the order in which they came.
func (w *lockRun) queueOf(name string) []int {
	var queue []int
	for s := range w.came {
		if s.name == name {
			queue = append(queue, s.session)
		}
	}
	slices.SortFunc(queue, func(a, b int) int { return w.came[stand{name, a}] - w.came[stand{name, b}] })
	return queue
}

// names answers the names of the locks that somebody stands at.
func (w *lockRun) names() []string {
	all := map[string]int{}
	for s := range w.came {
		all[s.name]++
	}
	return slices.Sorted(maps.Keys(all))
}

// holds tells the promise of the locks as they are: each has just one owner, by OwnedBy of all sessions, the others stand
// behind it in the order in which they came, and there are no other locks.
func (w *lockRun) holds(t *testing.T, what string) {
	t.Helper()
	if !impl.LocksOK(w.list) {
		t.Fatalf("%s: LocksOK(%v) is false", what, w.list)
	}
	owners := map[string][]int{}
	for session := range impl.Sessions {
		owned, code := impl.OwnedBy(w.list, session)
		if code != impl.OK || !slices.IsSorted(owned) {
			t.Fatalf("%s: OwnedBy(%v, %d) is %q, %d", what, w.list, session, owned, code)
		}
		for _, name := range owned {
			owners[name] = append(owners[name], session)
		}
	}
	names := w.names()
	if len(w.list) != len(names) || len(owners) != len(names) {
		t.Fatalf("%s: %v are locks, %v have owners, %q should be there", what, w.list, owners, names)
	}
	for i, name := range names {
		queue := w.queueOf(name)
		if w.list[i].Name != name || !slices.Equal(w.list[i].Queue, queue) {
			t.Fatalf("%s: %v is lock %d of %v, not %q with %v", what, w.list[i], i, w.list, name, queue)
		}
		if !slices.Equal(owners[name], queue[:1]) {
			t.Fatalf("%s: %q is owned by %v, not by %d", what, name, owners[name], queue[0])
		}
	}
}

// owners answers who owns each lock, by who came first.
func (w *lockRun) owners() map[string]int {
	owned := map[string]int{}
	for _, name := range w.names() {
		owned[name] = w.queueOf(name)[0]
	}
	return owned
}

// toldSays is who is told by word, name after name: of each lock that was there and is, and that another one owns now, the
// one that owned it if it was stolen, the one that owns it if it was left.
func toldSays(word string, was, is map[string]int) []impl.Told {
	var told []impl.Told
	for _, name := range slices.Sorted(maps.Keys(was)) {
		owner, there := is[name]
		if !there || owner == was[name] {
			continue
		}
		if word == "stolen" {
			owner = was[name]
		}
		told = append(told, impl.Told{Session: owner, Word: word, Name: name})
	}
	return told
}

// kindOf tells how a session stands at a lock: for counting which cases there were.
func (w *lockRun) kindOf(session int, name string) string {
	queue := w.queueOf(name)
	place := slices.Index(queue, session)
	switch {
	case len(queue) == 0 && len(w.names()) >= impl.MaxLocks:
		return "no room"
	case len(queue) == 0:
		return "new"
	case place < 0:
		return "another one's"
	case place == 0 && len(queue) == 1:
		return "its own alone"
	case place == 0:
		return "its own"
	}
	return "waits"
}

// did keeps what a call answered, and tells whether its code and who is told are as they must be.
func (w *lockRun) did(t *testing.T, what, word string, was map[string]int, made []impl.Lock, told []impl.Told, code, wantCode int) {
	t.Helper()
	if want := toldSays(word, was, w.owners()); code != wantCode || !alike(told, want) {
		t.Fatalf("%s of %v: %v is told, %d, not %v, %d", what, w.list, told, code, want, wantCode)
	}
	w.list = made
	w.holds(t, what)
}

// take, steal and leave do a call and tell of it; a session that can't stays where it is, and so do all others.
func (w *lockRun) take(t *testing.T, session int, name string) {
	t.Helper()
	kind, was, want := w.kindOf(session, name), w.owners(), impl.OK
	switch kind {
	case "no room":
		want = impl.ErrFull
	case "its own", "its own alone", "waits":
		want = impl.ErrTwice
	default:
		w.last++
		w.came[stand{name, session}] = w.last
	}
	w.cases["take "+kind]++
	made, owns, code := impl.TakeLock(w.list, session, name)
	if owns != (kind == "new") {
		t.Fatalf("TakeLock(%v, %d, %q) tells %v of owning", w.list, session, name, owns)
	}
	w.did(t, fmt.Sprintf("TakeLock of %d, %q", session, name), "locked", was, made, nil, code, want)
}

func (w *lockRun) steal(t *testing.T, session int, name string) {
	t.Helper()
	kind, was, want := w.kindOf(session, name), w.owners(), impl.OK
	if kind == "no room" {
		want = impl.ErrFull
	} else {
		w.first--
		w.came[stand{name, session}] = w.first
	}
	w.cases["steal "+kind]++
	made, told, code := impl.StealLock(w.list, session, name)
	w.did(t, fmt.Sprintf("StealLock of %d, %q", session, name), "stolen", was, made, told, code, want)
}

func (w *lockRun) leave(t *testing.T, session int, name string) {
	t.Helper()
	kind, was, want := w.kindOf(session, name), w.owners(), impl.OK
	if _, there := w.came[stand{name, session}]; !there {
		want = impl.ErrNone
	}
	delete(w.came, stand{name, session})
	w.cases["leave "+kind]++
	made, told, code := impl.LeaveLock(w.list, session, name)
	w.did(t, fmt.Sprintf("LeaveLock of %d, %q", session, name), "locked", was, made, told, code, want)
}

func (w *lockRun) leaveAll(t *testing.T, session int) {
	t.Helper()
	was := w.owners()
	maps.DeleteFunc(w.came, func(s stand, _ int) bool { return s.session == session })
	made, told, code := impl.LeaveAll(w.list, session)
	w.cases[fmt.Sprint("all left, told ", min(len(told), 3))]++
	w.did(t, fmt.Sprint("LeaveAll of ", session), "locked", was, made, told, code, impl.OK)
}

// Drawn runs of all calls, from no lock on, of all sessions: of few names, so that they meet, and of many, so that there
// is no room.
func TestPromise13DrawnRuns(t *testing.T) {
	r := rand.New(rand.NewSource(13))
	cases := map[string]int{}
	names := []string{"m", "a", "Z", "_", "m0", strings.Repeat("m", impl.MaxName), "zz", "b", "A"}
	for i := range 240 {
		w := lockRun{came: map[stand]int{}, cases: cases}
		some := names[:1+i%len(names)]
		for range 150 {
			session, name := r.Intn(impl.Sessions), some[r.Intn(len(some))]
			switch n := r.Intn(20); {
			case n < 9:
				w.take(t, session, name)
			case n < 13:
				w.steal(t, session, name)
			case n < 19:
				w.leave(t, session, name)
			default:
				w.leaveAll(t, session)
			}
		}
	}
	for _, call := range []string{"take", "steal", "leave"} {
		for _, kind := range []string{"no room", "new", "another one's", "its own alone", "its own", "waits"} {
			if cases[call+" "+kind] < 100 {
				t.Errorf("%s %s: %d times", call, kind, cases[call+" "+kind])
			}
		}
	}
	for count := range 4 {
		if what := fmt.Sprint("all left, told ", count); cases[what] < 50 {
			t.Errorf("%s: %d times", what, cases[what])
		}
	}
}

// Whatever order sessions take a lock in, they come to own it in that order, each told once when the one ahead leaves.
func TestPromise13InTheirOrder(t *testing.T) {
	for _, queue := range rightQueues()[1:] {
		w := lockRun{came: map[stand]int{}, cases: map[string]int{}}
		for _, session := range queue {
			w.take(t, session, "m")
		}
		for i, session := range queue {
			if owner := w.list[0].Queue[0]; owner != session {
				t.Errorf("session %d owns the lock of %v, when %d have left", owner, queue, i)
			}
			w.leave(t, session, "m")
		}
		if len(w.list) != 0 {
			t.Errorf("all of %v have left, and there are %v", queue, w.list)
		}
	}
}

// Stealing: each one stands ahead of those that were there, who stay in their order.
func TestPromise13WhoSteals(t *testing.T) {
	for _, queue := range rightQueues() {
		for _, thieves := range rightQueues() {
			w := lockRun{came: map[stand]int{}, cases: map[string]int{}}
			for _, session := range queue {
				w.take(t, session, "m")
			}
			for _, session := range thieves {
				w.steal(t, session, "m")
				w.steal(t, session, "m")
			}
			for session := range impl.Sessions {
				w.leaveAll(t, session)
			}
		}
	}
}

// spoiltLocks makes locks others in one thing, which are not right most often.
func spoiltLocks(r *rand.Rand, list []impl.Lock) []impl.Lock {
	made := again(reflect.ValueOf(list), false, 0).Interface().([]impl.Lock)
	i := r.Intn(len(made) + 1)
	if i == len(made) {
		return append(made, lock([]string{"z", "a", "", "9", "_"}[r.Intn(5)], []int{0, 1, 2, 3, 0}[:r.Intn(6)]...))
	}
	switch r.Intn(5) {
	case 0:
		made[i].Name = []string{"", "9", "-", "m", strings.Repeat("m", 40), strings.Repeat("m", 41)}[r.Intn(6)]
	case 1:
		made[i].Queue = append(made[i].Queue, []int{-1, 0, 1, 2, 3}[r.Intn(5)])
	case 2:
		made[i].Queue[r.Intn(len(made[i].Queue))] = []int{math.MinInt, -1, 0, 2, 3, math.MaxInt}[r.Intn(6)]
	case 3:
		made[i].Queue = made[i].Queue[1:]
	case 4:
		other := r.Intn(len(made))
		made[i], made[other] = made[other], made[i]
	}
	return made
}

// locksSay is what the chapter says of right locks, told once more.
func locksSay(list []impl.Lock) bool {
	for i, x := range list {
		if !impl.NameOK(x.Name) || i > 0 && list[i-1].Name >= x.Name || len(x.Queue) < 1 {
			return false
		}
		stands := map[int]int{}
		for _, session := range x.Queue {
			stands[session]++
			if session < 0 || session > 2 || stands[session] > 1 {
				return false
			}
		}
	}
	return len(list) <= 6
}

// someLocks answers up to six right ones.
func someLocks(r *rand.Rand) []impl.Lock {
	q := queues{}
	for range r.Intn(7) {
		q[[]string{"A", "Z", "_", "a", "aa", "b", "m", "z"}[r.Intn(8)]] = r.Perm(impl.Sessions)[:1+r.Intn(3)]
	}
	return q.list()
}

// Locks, sessions and names as they come, right or not, have the answers that the document says.
func TestPromise13SomeCodes(t *testing.T) {
	r := rand.New(rand.NewSource(131))
	codes := map[int]int{}
	for range 8000 {
		list := someLocks(r)
		if r.Intn(3) == 0 {
			list = spoiltLocks(r, list)
		}
		session := []int{-1, 0, 0, 1, 1, 2, 2, 3}[r.Intn(8)]
		name := []string{"", "9", "A", "a", "aa", "b", "m", "new", "z", strings.Repeat("m", 41)}[r.Intn(10)]
		what, code := fmt.Sprint(list, session, name), impl.OK
		right := locksSay(list)
		locksAre(t, what, list, right)
		switch {
		case !right:
			code = impl.ErrBad
			noLocks(t, what, list, session, name, code)
		case session < 0 || session > 2:
			code = impl.ErrRange
			noLocks(t, what, list, session, name, code)
		case !impl.NameOK(name):
			code = impl.ErrRange
			noName(t, what, list, session, name, code)
			allAsTheDocumentSays(t, what, list, session)
		default:
			asTheDocumentSays(t, what, list, session, name)
		}
		codes[code]++
	}
	if codes[impl.OK] < 1000 || codes[impl.ErrBad] < 1000 || codes[impl.ErrRange] < 1000 {
		t.Errorf("codes %v", codes)
	}
}

// handedLocks is what the calls of locks are given.
type handedLocks struct {
	Locks   []impl.Lock
	Session int
	Name    string
}

// locksOut is what they answer.
type locksOut struct {
	Took, Stole, Left, AllLeft []impl.Lock
	Told, LeftTold, AllTold    []impl.Told
	Names                      []string
	Right, Owns                bool
	Codes                      []int
}

func lockedOut(h handedLocks) locksOut {
	var out locksOut
	codes := [5]int{}
	out.Right = impl.LocksOK(h.Locks)
	out.Took, out.Owns, codes[0] = impl.TakeLock(h.Locks, h.Session, h.Name)
	out.Stole, out.Told, codes[1] = impl.StealLock(h.Locks, h.Session, h.Name)
	out.Left, out.LeftTold, codes[2] = impl.LeaveLock(h.Locks, h.Session, h.Name)
	out.AllLeft, out.AllTold, codes[3] = impl.LeaveAll(h.Locks, h.Session)
	out.Names, codes[4] = impl.OwnedBy(h.Locks, h.Session)
	out.Codes = codes[:]
	return out
}

// lockAnswers are those of all calls of locks; empty lists and nil are told alike.
func lockAnswers(h handedLocks) locksOut {
	return again(reflect.ValueOf(lockedOut(h)), true, 0).Interface().(locksOut)
}

func handedLocksAgain(h handedLocks, bare bool, room int) handedLocks {
	return again(reflect.ValueOf(h), bare, room).Interface().(handedLocks)
}

// allHandedLocks are of right and wrong locks, sessions and names.
func allHandedLocks() []handedLocks {
	var all []handedLocks
	for _, list := range [][]impl.Lock{
		nil, {}, {{}}, locks(lock("a", 1)), locks(lock("a", 1, 0, 2), lock("m", 2, 1), lock("z", 0)), locks(lock("a", 0, 1), lock("m", 0, 2, 1), lock("n", 2, 0, 1), lock("z", 0)),
		manyLocks(5, 2, 0), manyLocks(6, 0, 1, 2), append(manyLocks(5, 1, 0), lock("z", 0, 1)), manyLocks(7, 0), manyLocks(impl.MaxList+1, 1),
		locks(lock("a")), locks(impl.Lock{Name: "a", Queue: []int{}}), locks(lock("m", 1, 1)), locks(lock("m", 3)), locks(lock("m", 0, -1)), locks(lock("m", 0), lock("a", 1)), locks(lock("a", 0), lock("a", 1)), locks(lock("9", 1)),
		locks(lock("m", make([]int, 2*impl.MaxList)...)), locks(lock(strings.Repeat("m", impl.MaxText+1), 0)),
	} {
		for _, session := range []int{math.MinInt, -1, 0, 1, 2, 3, math.MaxInt} {
			for _, name := range []string{"", "a", "b", "m", "m00002", "zz", "9", strings.Repeat("m", impl.MaxName+1), strings.Repeat("m", impl.MaxText+1)} {
				all = append(all, handedLocks{list, session, name})
			}
		}
	}
	return all
}

func TestPromise1LocksAlikeAnswers(t *testing.T) {
	other := handedLocks{manyLocks(6, 0, 1), 1, "m00000"}
	for _, h := range allHandedLocks() {
		first := lockAnswers(h)
		lockedOut(other)
		if second := lockAnswers(handedLocksAgain(h, false, 0)); !reflect.DeepEqual(first, second) {
			t.Errorf("%s: %s, then %s", brief(h), brief(first), brief(second))
		}
		if bare := lockAnswers(handedLocksAgain(h, true, 0)); !reflect.DeepEqual(first, bare) {
			t.Errorf("%s: %s, with nil for empty lists %s", brief(h), brief(first), brief(bare))
		}
	}
}

func TestPromise1LocksStay(t *testing.T) {
	for _, h := range allHandedLocks() {
		roomy := handedLocksAgain(h, false, 3)
		before := wholeOf(reflect.ValueOf(roomy))
		answers := lockAnswers(roomy)
		if after := wholeOf(reflect.ValueOf(roomy)); after != before {
			t.Fatalf("%.500s was changed: %.500s", before, after)
		}
		if tight := lockAnswers(h); !reflect.DeepEqual(answers, tight) {
			t.Errorf("%s: room changes an answer", brief(h))
		}
	}
}

// locksAreNew tells that no answer shares memory with what was given, nor two lists of one with each other.
func locksAreNew(t *testing.T, h handedLocks) {
	t.Helper()
	out := lockedOut(h)
	isNew(t, fmt.Sprintf("locks %s with codes %v", brief(h), out.Codes), out, h)
	isNew(t, "once more", lockedOut(h), out)
	for _, made := range [][]impl.Lock{out.Took, out.Stole, out.Left, out.AllLeft} {
		isNew(t, "of an answer", lockedOut(handedLocks{made, h.Session, h.Name}), out)
	}
}

func TestPromise1LocksAreNew(t *testing.T) {
	for _, h := range allHandedLocks() {
		if len(h.Locks) <= impl.MaxList {
			locksAreNew(t, h)
			locksAreNew(t, handedLocksAgain(h, false, 3))
		}
	}
	r := rand.New(rand.NewSource(14))
	for range 500 {
		locksAreNew(t, handedLocks{someLocks(r), r.Intn(impl.Sessions), []string{"a", "m", "new"}[r.Intn(3)]})
	}
}

// All locks may have one queue, or pieces of one that end where the next one begins.
func TestPromise1LocksThatShareMemory(t *testing.T) {
	one := []int{0, 1, 2, 0, 2, 1}
	for _, list := range [][]impl.Lock{
		locks(lock("a", one[:1]...), lock("b", one[:2]...), lock("c", one[:3]...), lock("d", one[1:3]...), lock("e", one[2:3]...)),
		locks(lock("a", one[:1]...), lock("b", one[1:2]...), lock("c", one[2:4]...), lock("d", one[4:]...)),
		manyLocks(6, one[:2]...),
	} {
		for session := range impl.Sessions {
			for _, name := range []string{"a", "b", "c", "d", "e", "new", "m00000", "m00003"} {
				h := handedLocks{list, session, name}
				before := wholeOf(reflect.ValueOf(h))
				asTheDocumentSays(t, "shared memory", list, session, name)
				locksAreNew(t, h)
				if after := wholeOf(reflect.ValueOf(h)); after != before {
					t.Fatalf("%s was changed: %s", before, after)
				}
			}
		}
	}
}

// What is written into an answer changes neither what was given nor the next answer.
func TestPromise1WhoWritesIntoLocks(t *testing.T) {
	for _, h := range allHandedLocks() {
		want := lockAnswers(handedLocksAgain(h, false, 0))
		before := wholeOf(reflect.ValueOf(h))
		first := lockedOut(h)
		for _, made := range [][]impl.Lock{first.Took, first.Stole, first.Left, first.AllLeft} {
			for _, x := range made {
				spoilt := x.Queue[:cap(x.Queue)]
				for i := range spoilt {
					spoilt[i] = -7
				}
			}
			clear(made[:cap(made)])
		}
		clear(first.Told)
		clear(first.LeftTold)
		clear(first.AllTold)
		clear(first.Names)
		if second := lockAnswers(h); !reflect.DeepEqual(second, want) || wholeOf(reflect.ValueOf(h)) != before {
			t.Errorf("%s: a spoilt answer changes the next one: %s, not %s", brief(h), brief(second), brief(want))
		}
	}
}

func TestPromise1LocksAtTheSameTime(t *testing.T) {
	given := allHandedLocks()
	var all sync.WaitGroup
	for range 8 {
		all.Go(func() {
			for _, h := range given {
				first := lockAnswers(h)
				if second := lockAnswers(h); !reflect.DeepEqual(first, second) {
					t.Errorf("%s: %s, then %s", brief(h), brief(first), brief(second))
				}
			}
		})
	}
	all.Wait()
}
