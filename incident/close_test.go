package incident_test

import (
	"testing"

	"cresset/api"
)

// P5.4: the examples, and what is refused.
func TestClose(t *testing.T) {
	k := bookOf(t, flare(0, 0, 0), call(60, 30, 30), beacon("b1", 90, 5000, 0))
	before := pictureOf(k)
	closes(t, k, 0, 0, api.ErrState)
	closes(t, k, 1, 2, api.ErrState)
	for _, i := range []int{-1, 2, small, big} {
		closes(t, k, i, -1, api.ErrNone)
	}
	stays(t, "refused", k, before)
	proves(t, k, proof(api.Withdrawn, 1, 60, "kestrel", 0), api.OK)
	closes(t, k, 0, 0, api.ErrState)
	proves(t, k, foundBy(0, 0, 1), api.OK)
	isOpen(t, k, 0, 1)
	closes(t, k, 0, -1, api.OK)
	isOpen(t, k, 1)
	closes(t, k, 0, -1, api.ErrState)
	isOpen(t, k, 1)
	has(t, k, 0, 0, 1)
	misses(t, k, 0)
}

// P5.4: the first report that is not settled, not the last one.
func TestCloseFirst(t *testing.T) {
	k := bookOf(t, call(0, 0, 0), call(0, 0, 0), call(0, 0, 0))
	proves(t, k, proof(api.Withdrawn, 0, 0, "kestrel", 0), api.OK)
	closes(t, k, 0, 1, api.ErrState)
	proves(t, k, proof(api.Withdrawn, 2, 0, "kestrel", 0), api.OK)
	closes(t, k, 0, 1, api.ErrState)
	misses(t, k, 0, 1)
	proves(t, k, proof(api.Withdrawn, 1, 0, "kestrel", 0), api.OK)
	closes(t, k, 0, -1, api.OK)
}

// P5.5: reports of both, by their numbers.
func TestJoin(t *testing.T) {
	k := bookOf(t, flare(0, 0, 0), flare(0, 500, 0), flare(5, 0, 0), flare(5, 500, 0), flare(0, 900, 0))
	has(t, k, 0, 0, 2)
	has(t, k, 1, 1, 3)
	joins(t, k, 1, 0, api.OK)
	has(t, k, 0)
	has(t, k, 1, 0, 1, 2, 3)
	has(t, k, 2, 4)
	isOpen(t, k, 1, 2)
	misses(t, k, 0)
	misses(t, k, 1, 0, 1, 2, 3)
	closes(t, k, 0, -1, api.ErrState)
	takes(t, k, flare(10, 0, 0), 1, api.Alone) // near to what was in 0
	joins(t, k, 2, 1, api.OK)
	has(t, k, 2, 0, 1, 2, 3, 4, 5)
	has(t, k, 1)
	isOpen(t, k, 2)
	takes(t, k, flare(0, 5000, 0), 3, api.Nothing) // a new number
	has(t, k, 3, 6)
}

// P5.5: what is refused, and that nothing has changed then.
func TestJoinOfWrong(t *testing.T) {
	k := bookOf(t, beacon("x", 0, 0, 0), beacon("y", 0, 0, 0), flare(0, 500, 0), flare(0, 900, 0))
	joins(t, k, 2, 3, api.OK)
	before := pictureOf(k)
	for _, i := range []int{-1, 4, small, big, 3} {
		joins(t, k, i, 0, api.ErrNone)
		joins(t, k, 0, i, api.ErrNone)
		joins(t, k, i, i, api.ErrNone)
	}
	joins(t, k, 0, 0, api.ErrArg)
	joins(t, k, 2, 2, api.ErrArg)
	joins(t, k, 0, 1, api.ErrState)
	joins(t, k, 1, 0, api.ErrState)
	stays(t, "refused", k, before)
	joins(t, k, 0, 2, api.OK)
	joins(t, k, 0, 1, api.ErrState)
	joins(t, k, 1, 0, api.ErrState)
	has(t, k, 0, 0, 2, 3)
	isOpen(t, k, 0, 1)
}

// P5.5: just the last reports of both are other.
func TestJoinOfLastOther(t *testing.T) {
	k := bookOf(t, flare(0, 0, 0), flare(0, 500, 0), beacon("x", 1, 0, 0), beacon("y", 1, 500, 0), flare(2, 0, 0), flare(2, 500, 0))
	has(t, k, 0, 0, 2, 4)
	has(t, k, 1, 1, 3, 5)
	joins(t, k, 0, 1, api.ErrState)
	joins(t, k, 1, 0, api.ErrState)
}

// P5.5: incidents that are closed are joined, too, and what was found is found for the reports of both.
func TestJoinClosed(t *testing.T) {
	k := bookOf(t, flare(0, 0, 0), flare(0, 500, 0), with(7, call(0, 900, 0)), beacon("x", 60, 5000, 0))
	proves(t, k, foundBy(0, 50, 5), api.OK)
	proves(t, k, proof(api.Withdrawn, 1, 0, "buzzard", 0), api.OK)
	closes(t, k, 0, -1, api.OK)
	closes(t, k, 1, -1, api.OK)
	joins(t, k, 0, 1, api.OK) // two closed ones
	isOpen(t, k, 0, 2, 3)
	closes(t, k, 0, -1, api.OK)
	joins(t, k, 0, 2, api.OK) // an open one to a closed one
	isOpen(t, k, 0, 3)
	misses(t, k, 0, 2) // more persons than were found
	closes(t, k, 0, 2, api.ErrState)
	joins(t, k, 3, 0, api.OK)
	isOpen(t, k, 3)
	misses(t, k, 3, 2, 3) // later than all was found
	takes(t, k, flare(20, 0, 0), 3, api.Alone)
	misses(t, k, 3, 2, 3)
	proves(t, k, foundBy(4, 60, 7), api.OK)
	misses(t, k, 3)
	closes(t, k, 3, -1, api.OK)
	isOpen(t, k)
	takes(t, k, beacon("x", 0, -5000, 0), 3, api.Claimed)
	isOpen(t, k, 3)
}

// P5.5: a closed one to an open one.
func TestJoinClosedToOpen(t *testing.T) {
	k := bookOf(t, flare(0, 0, 0), flare(0, 500, 0))
	proves(t, k, foundBy(1, 50, 5), api.OK)
	closes(t, k, 1, -1, api.OK)
	joins(t, k, 0, 1, api.OK)
	isOpen(t, k, 0)
	misses(t, k, 0) // found for the other one
	closes(t, k, 0, -1, api.OK)
}

// P5.6
func TestReports(t *testing.T) {
	l := []api.Report{flare(0, 0, 0, 10, 0, 0, 10), beacon("x", 0, 500, 0), callAbout("x", 9, 700, 0), flare(5, 0, 0)}
	k := bookOf(t, l...)
	for n, want := range l {
		at := [...]int{0, 1, 1, 0}[n]
		if r, i, e := k.Report(n); !same(r, want) || i != at || e != api.OK {
			t.Errorf("%d: %v in %d, error %d; want %v in %d", n, r, i, e, want, at)
		}
	}
	for _, n := range []int{-1, 4, small, big} {
		if r, i, e := k.Report(n); !isZero(r) || i != 0 || e != api.ErrNone {
			t.Errorf("%d: %v in %d, error %d", n, r, i, e)
		}
	}
	for _, i := range []int{-1, 2, small, big} {
		if l, e := k.Reports(i); len(l) != 0 || e != api.ErrNone {
			t.Errorf("the reports of %d: %v, error %d", i, l, e)
		}
		if l, e := k.Missing(i); len(l) != 0 || e != api.ErrNone {
			t.Errorf("what %d misses: %v, error %d", i, l, e)
		}
	}
	has(t, k, 0, 0, 3)
	has(t, k, 1, 1, 2)
	misses(t, k, 0, 0, 3)
	proves(t, k, proof(api.Owner, 1, 0, "x", 0), api.OK)
	misses(t, k, 1, 2)
	has(t, k, 1, 1, 2)
	empty := newBook(t, 0, 0)
	isOpen(t, empty)
	if _, e := empty.Reports(0); e != api.ErrNone {
		t.Errorf("an empty book's reports: error %d", e)
	}
	if _, e := empty.Missing(0); e != api.ErrNone {
		t.Errorf("what an empty book misses: error %d", e)
	}
	if _, _, e := empty.Report(0); e != api.ErrNone {
		t.Errorf("an empty book's report: error %d", e)
	}
	closes(t, empty, 0, -1, api.ErrNone)
	joins(t, empty, 0, 0, api.ErrNone)
	proves(t, empty, foundBy(0, 0, 1), api.ErrNone)
}
