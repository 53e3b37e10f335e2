package impl

import (
	"sync"
	"testing"
)

// Sessions at one table at the same time. Who takes a lock that is not there is its one owner until it leaves, so that
// none else counts meanwhile: nothing but the table's mutex keeps them apart.
func TestSessionsAtOneLockTable(t *testing.T) {
	names := []string{"m", "a", "z"}
	w := lockTableOf(nil)
	var inside, owned [3]int
	var each [Sessions][3]int
	var all sync.WaitGroup
	for session := range Sessions {
		all.Go(func() {
			for i := range 20000 {
				place := (i + i/7*session) % len(names)
				owns, code := w.take(session, names[place])
				if code != OK {
					t.Errorf("take of %d, %s has the code %d", session, names[place], code)
				}
				if owns {
					inside[place]++
					owned[place]++
					each[session][place]++
					if inside[place] != 1 {
						t.Errorf("%d own %s", inside[place], names[place])
					}
					inside[place]--
				}
				if told, code := w.leave(session, names[place]); code != OK || len(told) > 0 && told[0].Session == session {
					t.Errorf("leave of %d, %s tells %v, %d", session, names[place], told, code)
				}
			}
		})
	}
	all.Wait()
	for place, name := range names {
		sum := 0
		for session := range Sessions {
			sum += each[session][place]
		}
		if sum != owned[place] || sum == 0 {
			t.Errorf("%s was owned %d times, counted %d times", name, sum, owned[place])
		}
	}
	if left := w.all(); len(left) != 0 {
		t.Errorf("all have left, and there are %v", left)
	}
}

// Stealing, too, at the same time: whatever comes of it, the locks are right, and none is left of those who all leave.
func TestThievesAtOneLockTable(t *testing.T) {
	names := []string{"m", "a", "z", "b", "y", "c", "x", "d"}
	w := lockTableOf([]Lock{{Name: "k", Queue: []int{1, 0, 2}}})
	var all sync.WaitGroup
	for session := range Sessions {
		all.Go(func() {
			for i := range 20000 {
				name := names[(i+i/5*session)%len(names)]
				w.take(session, name)
				w.steal(session, names[i%len(names)])
				w.leave(session, name)
			}
		})
	}
	all.Wait()
	left := w.all()
	if !LocksOK(left) {
		t.Errorf("LocksOK(%v) is false", left)
	}
	for session := range Sessions {
		left, _, _ = LeaveAll(left, session)
	}
	if len(left) != 0 {
		t.Errorf("all have left, and there are %v", left)
	}
}
