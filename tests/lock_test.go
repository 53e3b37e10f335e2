package tests

import (
	"fmt"
	"math"
	"slices"
	"strings"
	"testing"

	"loop.example/g00524/impl"
)

func lock(name string, queue ...int) impl.Lock { return impl.Lock{Name: name, Queue: queue} }

func locks(list ...impl.Lock) []impl.Lock { return list }

func tells(list ...impl.Told) []impl.Told { return list }

func stolen(session int, name string) impl.Told {
	return impl.Told{Session: session, Word: "stolen", Name: name}
}

func locked(session int, name string) impl.Told {
	return impl.Told{Session: session, Word: "locked", Name: name}
}

func takenIs(t *testing.T, what string, list []impl.Lock, session int, name string, want []impl.Lock, owns bool, wantCode int) {
	t.Helper()
	if made, now, code := impl.TakeLock(list, session, name); !alike(made, want) || now != owns || code != wantCode {
		t.Errorf("%q: TakeLock(%q, %d, %q) is %q, %v, %d, not %q, %v, %d", what, brief(list), session, brief(name), brief(made), now, code, brief(want), owns, wantCode)
	}
}

func stealIs(t *testing.T, what string, list []impl.Lock, session int, name string, want []impl.Lock, wantTold []impl.Told, wantCode int) {
	t.Helper()
	if made, told, code := impl.StealLock(list, session, name); !alike(made, want) || !alike(told, wantTold) || code != wantCode {
		t.Errorf("%q: StealLock(%q, %d, %q) is %q, %v, %d, not %q, %v, %d", what, brief(list), session, brief(name), brief(made), told, code, brief(want), wantTold, wantCode)
	}
}

func leaveIs(t *testing.T, what string, list []impl.Lock, session int, name string, want []impl.Lock, wantTold []impl.Told, wantCode int) {
	t.Helper()
	if made, told, code := impl.LeaveLock(list, session, name); !alike(made, want) || !alike(told, wantTold) || code != wantCode {
		t.Errorf("%q: LeaveLock(%q, %d, %q) is %q, %v, %d, not %q, %v, %d", what, brief(list), session, brief(name), brief(made), told, code, brief(want), wantTold, wantCode)
	}
}

func leaveAllIs(t *testing.T, what string, list []impl.Lock, session int, want []impl.Lock, wantTold []impl.Told, wantCode int) {
	t.Helper()
	if made, told, code := impl.LeaveAll(list, session); !alike(made, want) || !alike(told, wantTold) || code != wantCode {
		t.Errorf("%q: LeaveAll(%q, %d) is %q, %v, %d, not %q, %v, %d", what, brief(list), session, brief(made), told, code, brief(want), wantTold, wantCode)
	}
}

func ownedIs(t *testing.T, what string, list []impl.Lock, session int, want []string, wantCode int) {
	t.Helper()
	if owned, code := impl.OwnedBy(list, session); !alike(owned, want) || code != wantCode {
		t.Errorf("%q: OwnedBy(%q, %d) is %q, %d, not %q, %d", what, brief(list), session, owned, code, want, wantCode)
	}
}

// noName tells that the three calls that are given a name answer a code, and nothing beside it.
func noName(t *testing.T, what string, list []impl.Lock, session int, name string, want int) {
	t.Helper()
	takenIs(t, what, list, session, name, nil, false, want)
	stealIs(t, what, list, session, name, nil, nil, want)
	leaveIs(t, what, list, session, name, nil, nil, want)
}

// noLocks tells that all calls that answer a code answer this one, and nothing beside it.
func noLocks(t *testing.T, what string, list []impl.Lock, session int, name string, want int) {
	t.Helper()
	noName(t, what, list, session, name, want)
	leaveAllIs(t, what, list, session, nil, nil, want)
	ownedIs(t, what, list, session, nil, want)
}

// locksAre tells whether locks are right, in all calls that take them: those that are not right are ErrBad, but too many
// of them ErrLong.
func locksAre(t *testing.T, what string, list []impl.Lock, right bool) {
	t.Helper()
	if impl.LocksOK(list) != right {
		t.Errorf("%q: LocksOK(%q) is %v", what, brief(list), !right)
		return
	}
	code := impl.ErrBad
	if len(list) > impl.MaxList {
		code = impl.ErrLong
	}
	for _, session := range []int{math.MinInt, -1, 0, 1, 2, 3, math.MaxInt} {
		for _, name := range []string{"", "a", "m", strings.Repeat("a", impl.MaxName+1), strings.Repeat("a", impl.MaxText)} {
			if !right {
				noLocks(t, what, list, session, name, code)
			} else if _, got := impl.OwnedBy(list, session); got != impl.OK && got != impl.ErrRange {
				t.Errorf("%q: OwnedBy(%q, %d) has the code %d", what, brief(list), session, got)
			}
		}
	}
}

func TestBoundsOfLocks(t *testing.T) {
	if impl.Sessions != 3 || impl.MaxLocks != 6 {
		t.Errorf("Sessions is %d, MaxLocks %d", impl.Sessions, impl.MaxLocks)
	}
}

func TestNamesOfLocks(t *testing.T) {
	for name, right := range edgeNames() {
		what := "the name " + brief(name)
		locksAre(t, what, locks(lock(name, 1)), right)
		locksAre(t, what+", ahead of another one", locks(lock(name, 1), lock("zz", 1)), right)
		locksAre(t, what+", behind another one", locks(lock("A", 1), lock(name, 2)), right)
		locksAre(t, what+", and nobody in its queue", locks(lock(name)), false)
	}
	for b := range 256 {
		name := string([]byte{byte(b)})
		locksAre(t, "a byte", locks(lock(name, 0)), impl.NameOK(name))
		locksAre(t, "a byte behind another one", locks(lock("a"+name, 0)), impl.NameOK("a"+name))
	}
}

// All queues of up to four of the sessions and of numbers that are none.
func TestQueuesOfLocks(t *testing.T) {
	some := []int{math.MinInt, -1, 0, 1, 2, 3, math.MaxInt}
	all := [][]int{{}}
	for begin := 0; len(all[begin]) < 4; begin++ {
		for _, n := range some {
			all = append(all, append(slices.Clone(all[begin]), n))
		}
	}
	found := 0
	for _, queue := range all {
		right := len(queue) > 0 && len(queue) <= 3
		for i, n := range queue {
			right = right && n >= 0 && n <= 2 && slices.Index(queue, n) == i
		}
		if right {
			found++
		}
		if ok := impl.LocksOK(locks(lock("m", queue...))); ok != right {
			t.Errorf("LocksOK of the queue %v is %v", queue, ok)
		}
		if len(queue) < 3 || right {
			locksAre(t, "a queue", locks(lock("m", queue...)), right)
			locksAre(t, "the first queue", locks(lock("m", queue...), lock("n", 0)), right)
			locksAre(t, "the last queue", locks(lock("l", 2, 1), lock("m", queue...)), right)
		}
	}
	if found != 15 {
		t.Errorf("%d queues are right", found)
	}
}

func TestLongQueuesOfLocks(t *testing.T) {
	for _, count := range []int{4, 5, impl.MaxList, impl.MaxList + 1, impl.MaxText + 1, 1 << 20} {
		queue := make([]int, count)
		for i := range queue {
			queue[i] = i % impl.Sessions
		}
		locksAre(t, fmt.Sprint("a queue of ", count), locks(lock("m", queue...)), false)
		locksAre(t, fmt.Sprint("a queue of noughts ", count), locks(lock("m", make([]int, count)...)), false)
	}
}

func TestOrderOfLocks(t *testing.T) {
	rising := []string{"A", "A0", "AA", "Z", "_", "_0", "a", "a0", "a_", "aa", "b", strings.Repeat("z", impl.MaxName-1), strings.Repeat("z", impl.MaxName)}
	for i, a := range rising {
		for k, b := range rising {
			locksAre(t, a+" and "+b, locks(lock(a, 0), lock(b, 1)), i < k)
			locksAre(t, a+", "+b+" and the last one", locks(lock(a, 0), lock(b, 1), lock("zz", 1)), i < k && k < len(rising)-2)
		}
	}
	locksAre(t, "one twice", locks(lock("a", 0), lock("a", 0)), false)
	locksAre(t, "one twice, another one between", locks(lock("a", 0), lock("b", 1), lock("a", 2)), false)
	locksAre(t, "the last two fall", locks(lock("a", 0), lock("c", 1), lock("b", 2)), false)
	locksAre(t, "they rise", locks(lock("a", 0), lock("b", 0), lock("c", 0)), true)
}

// manyLocks answers so many locks whose names rise, all with one queue.
func manyLocks(count int, queue ...int) []impl.Lock {
	var list []impl.Lock
	for i := range count {
		list = append(list, lock(fmt.Sprintf("m%05d", i), queue...))
	}
	return list
}

func TestHowManyLocks(t *testing.T) {
	for count := range 14 {
		locksAre(t, fmt.Sprint(count, " locks"), manyLocks(count, 1, 0), count <= 6)
	}
	locksAre(t, "MaxLocks, the last one is none", append(manyLocks(5, 0), lock("9", 0)), false)
	locksAre(t, "MaxLocks, the last one of nobody", append(manyLocks(5, 0), lock("z")), false)
	for _, count := range []int{impl.MaxList - 1, impl.MaxList, impl.MaxList + 1, 2 * impl.MaxList} {
		locksAre(t, fmt.Sprint(count, " locks"), manyLocks(count, 2), false)
		locksAre(t, fmt.Sprint(count, " zero locks"), make([]impl.Lock, count), false)
	}
	locksAre(t, "a zero lock", make([]impl.Lock, 1), false)
	locksAre(t, "nothing", nil, true)
	locksAre(t, "an empty list", locks(), true)
}

func TestSessionsOfLocks(t *testing.T) {
	list := locks(lock("a", 0), lock("m", 1, 0, 2), lock("z", 2))
	for _, given := range [][]impl.Lock{nil, list, manyLocks(6, 0)} {
		for _, session := range []int{math.MinInt, math.MinInt + 1, -1 << 32, -3, -2, -1, 3, 4, 5, 255, 256, 1 << 16, 1 << 32, 1<<32 + 1, math.MaxInt - 1, math.MaxInt} {
			for _, name := range []string{"a", "m", "new", "", "9", strings.Repeat("a", impl.MaxName+1), strings.Repeat("a", impl.MaxText)} {
				noLocks(t, "no session", given, session, name, impl.ErrRange)
			}
		}
	}
	for session := range 3 {
		takenIs(t, "a session", nil, session, "m", locks(lock("m", session)), true, impl.OK)
		stealIs(t, "a session", nil, session, "m", locks(lock("m", session)), nil, impl.OK)
		leaveIs(t, "a session", nil, session, "m", nil, nil, impl.ErrNone)
		leaveAllIs(t, "a session", nil, session, nil, nil, impl.OK)
		ownedIs(t, "a session", nil, session, nil, impl.OK)
		ownedIs(t, "a session", list, session, []string{[]string{"a", "m", "z"}[session]}, impl.OK)
	}
}

// A name that is asked for is one; if it is none, it is out of range, and beyond MaxText too long.
func TestNamesThatAreAskedFor(t *testing.T) {
	names := edgeNames()
	names[strings.Repeat("a", impl.MaxText-1)] = false
	names[strings.Repeat("a", impl.MaxText)] = false
	names[strings.Repeat("a", 2*impl.MaxText)] = false
	for b := range 256 {
		name := string([]byte{byte(b)})
		names[name], names["b"+name] = impl.NameOK(name), impl.NameOK("b"+name)
	}
	for name, right := range names {
		what := "the name " + brief(name)
		if right {
			takenIs(t, what, nil, 0, name, locks(lock(name, 0)), true, impl.OK)
			stealIs(t, what, nil, 0, name, locks(lock(name, 0)), nil, impl.OK)
			leaveIs(t, what, nil, 0, name, nil, nil, impl.ErrNone)
			takenIs(t, what, locks(lock(name, 2)), 0, name, locks(lock(name, 2, 0)), false, impl.OK)
			stealIs(t, what, locks(lock(name, 2)), 0, name, locks(lock(name, 0, 2)), tells(stolen(2, name)), impl.OK)
			leaveIs(t, what, locks(lock(name, 2, 0)), 2, name, locks(lock(name, 0)), tells(locked(0, name)), impl.OK)
			continue
		}
		code := impl.ErrRange
		if len(name) > impl.MaxText {
			code = impl.ErrLong
		}
		for _, given := range [][]impl.Lock{nil, locks(lock("a", 1)), manyLocks(6, 2, 1)} {
			for session := range 3 {
				noName(t, what, given, session, name, code)
			}
		}
	}
}

func TestTakeLock(t *testing.T) {
	three := locks(lock("b", 1), lock("d", 0, 2), lock("f", 2, 1, 0))
	for _, c := range []struct {
		what    string
		session int
		name    string
		want    []impl.Lock
		owns    bool
		code    int
	}{
		{"a new one ahead of all", 1, "a", locks(lock("a", 1), three[0], three[1], three[2]), true, impl.OK},
		{"a new one between", 2, "c", locks(three[0], lock("c", 2), three[1], three[2]), true, impl.OK},
		{"a new one between the last two", 0, "e", locks(three[0], three[1], lock("e", 0), three[2]), true, impl.OK},
		{"a new one behind all", 0, "g", locks(three[0], three[1], three[2], lock("g", 0)), true, impl.OK},
		{"a new one that begins like one", 0, "b0", locks(three[0], lock("b0", 0), three[1], three[2]), true, impl.OK},
		{"a new one of another case", 0, "D", locks(lock("D", 0), three[0], three[1], three[2]), true, impl.OK},
		{"another one's", 0, "b", locks(lock("b", 1, 0), three[1], three[2]), false, impl.OK},
		{"one that others have and wait for", 1, "d", locks(three[0], lock("d", 0, 2, 1), three[2]), false, impl.OK},
		{"its own", 1, "b", three, false, impl.ErrTwice},
		{"its own, another one waits", 0, "d", three, false, impl.ErrTwice},
		{"its own, two wait", 2, "f", three, false, impl.ErrTwice},
		{"one that it waits for", 2, "d", three, false, impl.ErrTwice},
		{"one that it waits for first", 1, "f", three, false, impl.ErrTwice},
		{"one that it waits for last", 0, "f", three, false, impl.ErrTwice},
	} {
		takenIs(t, c.what, three, c.session, c.name, c.want, c.owns, c.code)
	}
}

func TestStealLock(t *testing.T) {
	three := locks(lock("b", 1), lock("d", 0, 2), lock("f", 2, 1, 0))
	for _, c := range []struct {
		what    string
		session int
		name    string
		want    []impl.Lock
		told    []impl.Told
	}{
		{"a new one ahead of all", 1, "a", locks(lock("a", 1), three[0], three[1], three[2]), nil},
		{"a new one between", 2, "c", locks(three[0], lock("c", 2), three[1], three[2]), nil},
		{"a new one between the last two", 0, "e", locks(three[0], three[1], lock("e", 0), three[2]), nil},
		{"a new one behind all", 0, "g", locks(three[0], three[1], three[2], lock("g", 0)), nil},
		{"another one's", 0, "b", locks(lock("b", 0, 1), three[1], three[2]), tells(stolen(1, "b"))},
		{"one that others have and wait for", 1, "d", locks(three[0], lock("d", 1, 0, 2), three[2]), tells(stolen(0, "d"))},
		{"its own", 1, "b", three, nil},
		{"its own, another one waits", 0, "d", three, nil},
		{"its own, two wait", 2, "f", three, nil},
		{"one that it waits for", 2, "d", locks(three[0], lock("d", 2, 0), three[2]), tells(stolen(0, "d"))},
		{"one that it waits for first", 1, "f", locks(three[0], three[1], lock("f", 1, 2, 0)), tells(stolen(2, "f"))},
		{"one that it waits for last", 0, "f", locks(three[0], three[1], lock("f", 0, 2, 1)), tells(stolen(2, "f"))},
	} {
		stealIs(t, c.what, three, c.session, c.name, c.want, c.told, impl.OK)
	}
}

func TestLeaveLock(t *testing.T) {
	three := locks(lock("b", 1), lock("d", 0, 2), lock("f", 2, 1, 0))
	for _, c := range []struct {
		what    string
		session int
		name    string
		want    []impl.Lock
		told    []impl.Told
		code    int
	}{
		{"its own, nobody waits", 1, "b", locks(three[1], three[2]), nil, impl.OK},
		{"its own, another one waits", 0, "d", locks(three[0], lock("d", 2), three[2]), tells(locked(2, "d")), impl.OK},
		{"its own, two wait", 2, "f", locks(three[0], three[1], lock("f", 1, 0)), tells(locked(1, "f")), impl.OK},
		{"one that it waits for", 2, "d", locks(three[0], lock("d", 0), three[2]), nil, impl.OK},
		{"one that it waits for first", 1, "f", locks(three[0], three[1], lock("f", 2, 0)), nil, impl.OK},
		{"one that it waits for last", 0, "f", locks(three[0], three[1], lock("f", 2, 1)), nil, impl.OK},
		{"another one's", 0, "b", three, nil, impl.ErrNone},
		{"another one's", 2, "b", three, nil, impl.ErrNone},
		{"one that others have and wait for", 1, "d", three, nil, impl.ErrNone},
		{"none, ahead of all", 1, "a", three, nil, impl.ErrNone},
		{"none, between", 1, "c", three, nil, impl.ErrNone},
		{"none, behind all", 2, "g", three, nil, impl.ErrNone},
		{"none, that begins like one", 1, "b0", three, nil, impl.ErrNone},
		{"none, of another case", 1, "B", three, nil, impl.ErrNone},
	} {
		leaveIs(t, c.what, three, c.session, c.name, c.want, c.told, c.code)
	}
	leaveIs(t, "the only one", locks(lock("m", 2)), 2, "m", nil, nil, impl.OK)
	leaveIs(t, "the last one", locks(lock("a", 2), lock("m", 2)), 2, "m", locks(lock("a", 2)), nil, impl.OK)
}

func TestLeaveAll(t *testing.T) {
	for _, c := range []struct {
		what       string
		list, want []impl.Lock
		told       []impl.Told
	}{
		{"no lock", nil, nil, nil},
		{"in none", locks(lock("a", 0), lock("b", 2, 0)), locks(lock("a", 0), lock("b", 2, 0)), nil},
		{"its own, nobody waits", locks(lock("a", 1)), nil, nil},
		{"its own, another one waits", locks(lock("a", 1, 0)), locks(lock("a", 0)), tells(locked(0, "a"))},
		{"its own, two wait", locks(lock("a", 1, 2, 0)), locks(lock("a", 2, 0)), tells(locked(2, "a"))},
		{"one that it waits for", locks(lock("a", 0, 1)), locks(lock("a", 0)), nil},
		{"one that it waits for ahead of another one", locks(lock("a", 0, 1, 2)), locks(lock("a", 0, 2)), nil},
		{"it owns some and waits for others",
			locks(lock("a", 1, 2), lock("b", 0, 1), lock("c", 1), lock("d", 2, 0), lock("e", 2, 1, 0), lock("f", 1, 0, 2)),
			locks(lock("a", 2), lock("b", 0), lock("d", 2, 0), lock("e", 2, 0), lock("f", 0, 2)),
			tells(locked(2, "a"), locked(0, "f"))},
		{"it owns all of many, nobody waits", manyLocks(6, 1), nil, nil},
		{"it owns the first ones", locks(lock("a", 1), lock("b", 1), lock("c", 0)), locks(lock("c", 0)), nil},
		{"it owns the last ones", locks(lock("a", 0), lock("b", 1), lock("c", 1)), locks(lock("a", 0)), nil},
		{"it owns each other one", locks(lock("a", 1), lock("b", 0), lock("c", 1), lock("d", 2), lock("e", 1, 2), lock("f", 0)),
			locks(lock("b", 0), lock("d", 2), lock("e", 2), lock("f", 0)), tells(locked(2, "e"))},
		{"one is told of all", manyLocks(6, 1, 2), manyLocks(6, 2), tells(locked(2, "m00000"), locked(2, "m00001"), locked(2, "m00002"), locked(2, "m00003"), locked(2, "m00004"), locked(2, "m00005"))},
	} {
		leaveAllIs(t, c.what, c.list, 1, c.want, c.told, impl.OK)
		leaveAllIs(t, c.what+", once more", c.want, 1, c.want, nil, impl.OK)
	}
}

func TestOwnedBy(t *testing.T) {
	list := locks(lock("A", 1, 0), lock("_", 0), lock("a", 1), lock("b", 2, 1), lock("c", 0, 1, 2), lock("d", 1, 2, 0))
	for session, want := range [][]string{{"_", "c"}, {"A", "a", "d"}, {"b"}} {
		ownedIs(t, "six locks", list, session, want, impl.OK)
		ownedIs(t, "the first four", list[:4], session, want[:min(len(want), []int{1, 2, 1}[session])], impl.OK)
	}
	ownedIs(t, "it waits for all", manyLocks(6, 1, 2), 2, nil, impl.OK)
	ownedIs(t, "it is in none", manyLocks(6, 1, 2), 0, nil, impl.OK)
	ownedIs(t, "it owns all", manyLocks(6, 1, 2), 1, []string{"m00000", "m00001", "m00002", "m00003", "m00004", "m00005"}, impl.OK)
}

// With MaxLocks there is no room for a new lock, wherever it would stand; all goes on with those that are there.
func TestFullLocks(t *testing.T) {
	for _, count := range []int{5, 6} {
		for place := range count + 1 {
			full := manyLocks(count, 1)
			name := fmt.Sprintf("m%05d_", place-1)
			if place == 0 {
				name = "a"
			}
			want, code := slices.Insert(slices.Clone(full), place, lock(name, 0)), impl.OK
			if count == 6 {
				want, code = full, impl.ErrFull
			}
			what := fmt.Sprint(count, " locks, a new one at ", place)
			takenIs(t, what, full, 0, name, want, code == impl.OK, code)
			stealIs(t, what, full, 0, name, want, nil, code)
			leaveIs(t, what, full, 0, name, full, nil, impl.ErrNone)
		}
		for place, x := range manyLocks(count, 1) {
			full := manyLocks(count, 1)
			with := func(queue ...int) []impl.Lock {
				made := slices.Clone(full)
				made[place] = lock(x.Name, queue...)
				return made
			}
			what := fmt.Sprint(count, " locks, the one at ", place)
			takenIs(t, what, full, 0, x.Name, with(1, 0), false, impl.OK)
			takenIs(t, what, full, 1, x.Name, full, false, impl.ErrTwice)
			takenIs(t, what, with(1, 0), 0, x.Name, with(1, 0), false, impl.ErrTwice)
			takenIs(t, what, with(1, 0), 2, x.Name, with(1, 0, 2), false, impl.OK)
			stealIs(t, what, full, 0, x.Name, with(0, 1), tells(stolen(1, x.Name)), impl.OK)
			stealIs(t, what, full, 1, x.Name, full, nil, impl.OK)
			leaveIs(t, what, full, 1, x.Name, slices.Delete(slices.Clone(full), place, place+1), nil, impl.OK)
			leaveIs(t, what, full, 0, x.Name, full, nil, impl.ErrNone)
		}
	}
	left, _, _ := impl.LeaveLock(manyLocks(6, 1), 1, "m00003")
	want := slices.Clone(left)
	takenIs(t, "there is room once more", left, 2, "z", append(want, lock("z", 2)), true, impl.OK)
}

// Where two codes are due, the first one in the chapter's order is answered.
func TestWhichCodeOfLocks(t *testing.T) {
	many, wrong, full := manyLocks(impl.MaxList+1, 0), manyLocks(7, 0), manyLocks(6, 0)
	long, none := strings.Repeat("a", impl.MaxText+1), strings.Repeat("a", impl.MaxName+1)
	for _, session := range []int{-1, 0, 3} {
		for _, name := range []string{"", "9", none, long, "new", "m00000"} {
			noLocks(t, "too many locks", many, session, name, impl.ErrLong)
			if name != long {
				noLocks(t, "wrong locks", wrong, session, name, impl.ErrBad)
				noLocks(t, "one lock that is none", make([]impl.Lock, 1), session, name, impl.ErrBad)
			}
		}
		for _, list := range [][]impl.Lock{nil, wrong, full, make([]impl.Lock, impl.MaxList)} {
			noName(t, "too long a name", list, session, long, impl.ErrLong)
		}
	}
	for _, name := range []string{"", "9", none, "new", "m00000"} {
		noLocks(t, "no session", full, 3, name, impl.ErrRange)
	}
	for _, name := range []string{"", "9", none} {
		noName(t, "no name", full, 0, name, impl.ErrRange)
	}
	if impl.LocksOK(many) || impl.LocksOK(wrong) {
		t.Error("LocksOK of too many locks is true")
	}
}

// A lock goes from one session to the next: taken, waited for, left, stolen, left altogether.
func TestLocksOneCallAfterAnother(t *testing.T) {
	var list []impl.Lock
	step := func(made []impl.Lock, told []impl.Told, code int, want []impl.Lock, wantTold ...impl.Told) {
		t.Helper()
		if !alike(made, want) || !alike(told, wantTold) || code != impl.OK || !impl.LocksOK(made) {
			t.Fatalf("from %v: %v, %v, %d, not %v, %v", list, made, told, code, want, wantTold)
		}
		list = made
	}
	take := func(session int, name string, owns bool, want ...impl.Lock) {
		t.Helper()
		made, now, code := impl.TakeLock(list, session, name)
		if now != owns {
			t.Errorf("from %v: session %d takes %s, and owns it: %v", list, session, name, now)
		}
		step(made, nil, code, want)
	}
	steal := func(session int, name string, told []impl.Told, want ...impl.Lock) {
		t.Helper()
		made, got, code := impl.StealLock(list, session, name)
		step(made, got, code, want, told...)
	}
	leave := func(session int, name string, told []impl.Told, want ...impl.Lock) {
		t.Helper()
		made, got, code := impl.LeaveLock(list, session, name)
		step(made, got, code, want, told...)
	}
	take(2, "m", true, lock("m", 2))
	take(0, "m", false, lock("m", 2, 0))
	take(1, "m", false, lock("m", 2, 0, 1))
	steal(1, "m", tells(stolen(2, "m")), lock("m", 1, 2, 0))
	leave(2, "m", nil, lock("m", 1, 0))
	take(2, "m", false, lock("m", 1, 0, 2))
	steal(0, "b", nil, lock("b", 0), lock("m", 1, 0, 2))
	steal(2, "b", tells(stolen(0, "b")), lock("b", 2, 0), lock("m", 1, 0, 2))
	steal(0, "b", tells(stolen(2, "b")), lock("b", 0, 2), lock("m", 1, 0, 2))
	leave(1, "m", tells(locked(0, "m")), lock("b", 0, 2), lock("m", 0, 2))
	made, told, code := impl.LeaveAll(list, 0)
	step(made, told, code, locks(lock("b", 2), lock("m", 2)), locked(2, "b"), locked(2, "m"))
	leave(2, "b", nil, lock("m", 2))
	take(1, "b", true, lock("b", 1), lock("m", 2))
	made, told, code = impl.LeaveAll(list, 2)
	step(made, told, code, locks(lock("b", 1)))
	leave(1, "b", nil)
}
