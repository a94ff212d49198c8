package incident_test

import (
	"slices"
	"testing"

	"cresset/api"
	"cresset/incident"
)

// P5.2
func TestNew(t *testing.T) {
	for _, c := range []struct {
		window, drift int
		e             api.Errno
	}{
		{0, 0, api.OK},
		{api.MaxWindow, api.MaxDrift, api.OK},
		{3600, 3600, api.OK},
		{-1, 0, api.ErrRange},
		{0, -1, api.ErrRange},
		{api.MaxWindow + 1, 0, api.ErrRange},
		{0, api.MaxDrift + 1, api.ErrRange},
		{small, big, api.ErrRange},
		{big, small, api.ErrRange},
	} {
		k, e := incident.New(c.window, c.drift)
		if e != c.e || (k != nil) != (e == api.OK) {
			t.Errorf("window %d, drift %d: %v, error %d; want %d", c.window, c.drift, k, e, c.e)
		}
		if k == nil {
			continue
		}
		if p := pictureOf(k); len(p.reports)+len(p.open)+len(p.has) != 0 {
			t.Errorf("a new book has %v", p)
		}
	}
}

// refuses checks that all methods of a book that is none return ErrNil.
func refuses(t *testing.T, what string, k *incident.Book) {
	t.Helper()
	if i, why, e := k.Take(call(0, 0, 0)); i != 0 || why != 0 || e != api.ErrNil {
		t.Errorf("%s: Take returns %d, %d, %d", what, i, why, e)
	}
	if i, why, e := k.Take(api.Report{}); i != 0 || why != 0 || e != api.ErrNil {
		t.Errorf("%s: Take of a wrong report returns %d, %d, %d", what, i, why, e)
	}
	if e := k.Prove(foundBy(0, 0, 4)); e != api.ErrNil {
		t.Errorf("%s: Prove returns %d", what, e)
	}
	for _, i := range []int{0, -1, 7} {
		if n, e := k.Close(i); n != 0 || e != api.ErrNil {
			t.Errorf("%s: Close of %d returns %d, %d", what, i, n, e)
		}
		if e := k.Join(i, 0); e != api.ErrNil {
			t.Errorf("%s: Join of %d returns %d", what, i, e)
		}
		if l, e := k.Reports(i); len(l) != 0 || e != api.ErrNil {
			t.Errorf("%s: Reports of %d returns %v, %d", what, i, l, e)
		}
		if r, at, e := k.Report(i); !isZero(r) || at != 0 || e != api.ErrNil {
			t.Errorf("%s: Report of %d returns %v, %d, %d", what, i, r, at, e)
		}
		if l, e := k.Missing(i); len(l) != 0 || e != api.ErrNil {
			t.Errorf("%s: Missing of %d returns %v, %d", what, i, l, e)
		}
	}
	if l := k.Open(); len(l) != 0 {
		t.Errorf("%s: Open returns %v", what, l)
	}
}

// P5.2: what New has not returned is no book.
func TestNoBook(t *testing.T) {
	refuses(t, "nil", nil)
	refuses(t, "a book by nobody", &incident.Book{})
	k := bookOf(t, call(0, 0, 0), call(60, 5000, 0))
	before := pictureOf(k)
	copied := *k
	refuses(t, "a copy", &copied)
	stays(t, "a copy was asked", k, before)
}

// P5.2: the examples.
func TestTake(t *testing.T) {
	k := newBook(t, 3600, 3600)
	takes(t, k, flare(0, 0, 0), 0, api.Nothing)
	takes(t, k, call(60, 30, 30), 0, api.Alone)
	takes(t, k, beacon("b1", 90, 5000, 0), 1, api.Nothing)
	has(t, k, 0, 0, 1)
	has(t, k, 1, 2)
	isOpen(t, k, 0, 1)
}

// P5.2: who claims a report gets it, however late and far it is, and whoever else may have it.
func TestTakeClaimed(t *testing.T) {
	k := newBook(t, 3600, 3600)
	takes(t, k, callAbout("x", 0, 0, 0), 0, api.Nothing)
	takes(t, k, callAbout("y", 0, 9000, 0), 1, api.Nothing)
	takes(t, k, beacon("x", api.MaxTime, 9000, 0), 0, api.Claimed)
	takes(t, k, overdue("y", 0, 0, 0), 1, api.Claimed)
	takes(t, k, call(0, 9000, 0), 1, api.Alone)
	takes(t, k, flare(7200, 50, 50), 2, api.Nothing)
	takes(t, k, callAbout("y", 7200, 50, 50), 1, api.Claimed) // 2 may have it, too
	has(t, k, 0, 0, 2)
	has(t, k, 1, 1, 3, 4, 6)
	has(t, k, 2, 5)
	isOpen(t, k, 0, 1, 2)
}

// P5.2: a name that an incident has got keeps others apart, and each of its reports counts.
func TestTakeNamedLater(t *testing.T) {
	k := bookOf(t, flare(0, 0, 0))
	takes(t, k, beacon("x", 10, 5, 5), 0, api.Alone)
	takes(t, k, beacon("y", 10, 5, 5), 1, api.Nothing) // near the flare, but other than x
	takes(t, k, beacon("x", 5000, 900, 0), 0, api.Claimed)
	takes(t, k, flare(5000, 900, 5), 2, api.Nothing)
	takes(t, k, flare(5000, 900, 0, 900, 5), 3, api.Doubtful) // near the last beacon of 0, and near 2
	has(t, k, 0, 0, 1, 3)
	has(t, k, 1, 2)
	has(t, k, 2, 4)
	has(t, k, 3, 5)
}

// P5.2: a closed incident is open again if it claims a report; it gets none in another way.
func TestTakeClosed(t *testing.T) {
	k := newBook(t, 3600, 3600)
	takes(t, k, with(4, beacon("x", 0, 0, 0)), 0, api.Nothing)
	proves(t, k, foundBy(0, 10, 4), api.OK)
	closes(t, k, 0, -1, api.OK)
	isOpen(t, k)
	takes(t, k, call(10, 0, 0), 1, api.Nothing)
	isOpen(t, k, 1)
	takes(t, k, call(20, 0, 0), 1, api.Alone) // just one of the two is open
	takes(t, k, callAbout("x", 9, 0, 0), 0, api.Claimed)
	isOpen(t, k, 0, 1)
	takes(t, k, call(30, 0, 0), 2, api.Doubtful)
	has(t, k, 0, 0, 3)
	has(t, k, 1, 1, 2)
	misses(t, k, 0)
	closes(t, k, 0, -1, api.OK)
	takes(t, k, callAbout("x", 11, 0, 0), 0, api.Claimed)
	misses(t, k, 0, 5)
	closes(t, k, 0, 5, api.ErrState)
	isOpen(t, k, 0, 1, 2)
}

// P5.2: one incident that may have a report gets it; several do not.
func TestTakeAlone(t *testing.T) {
	for _, c := range []struct {
		what             string
		there            []api.Report
		next             api.Report
		incident, reason int
	}{
		{"near", []api.Report{flare(0, 0, 0)}, call(10, 10, 0), 0, api.Alone},
		{"near, and before it", []api.Report{flare(10, 0, 0)}, call(0, 0, -10), 0, api.Alone},
		{"far", []api.Report{flare(0, 0, 0)}, call(10, 11, 0), 1, api.Nothing},
		{"late", []api.Report{flare(0, 0, 0)}, call(3601, 0, 0), 1, api.Nothing},
		{"before it, by more than the window", []api.Report{flare(3601, 0, 0)}, call(0, 0, 0), 1, api.Nothing},
		{"a name that is other", []api.Report{beacon("x", 0, 0, 0)}, beacon("y", 0, 0, 0), 1, api.Nothing},
		{"a name that comes", []api.Report{flare(0, 0, 0)}, beacon("y", 0, 0, 0), 0, api.Alone},
		{"a name that is there", []api.Report{beacon("x", 0, 0, 0)}, flare(0, 0, 0), 0, api.Alone},
		{"near the second one", []api.Report{flare(0, 0, 0), flare(0, 100, 0)}, call(10, 90, 0), 1, api.Alone},
		{"near the first one", []api.Report{flare(0, 0, 0), flare(0, 100, 0)}, call(10, 10, 0), 0, api.Alone},
		{"near both", []api.Report{flare(0, 0, 0), flare(0, 20, 0)}, call(10, 10, 0), 2, api.Doubtful},
		{"near all three", []api.Report{flare(0, 0, 0), flare(0, 20, 0), flare(0, 10, 10)}, call(10, 10, 0), 3, api.Doubtful},
		{"near both, other than one", []api.Report{beacon("x", 0, 0, 0), flare(0, 20, 0)}, beacon("y", 10, 10, 0), 1, api.Alone},
		{"near both, other than both", []api.Report{beacon("x", 0, 0, 0), beacon("z", 0, 20, 0)}, beacon("y", 10, 10, 0), 2, api.Nothing},
		{"near both, the same as the second one", []api.Report{flare(0, 0, 0), beacon("y", 0, 20, 0)}, beacon("y", 10, 10, 0), 1, api.Claimed},
		{"near the second report of one", []api.Report{flare(0, 0, 0), flare(10, 10, 0)}, call(20, 20, 0), 0, api.Alone},
		{"near the first report of one, late for the second one", []api.Report{flare(0, 0, 0), flare(3600, 0, 0)}, call(0, 0, 0), 0, api.Alone},
	} {
		takes(t, bookOf(t, c.there...), c.next, c.incident, c.reason)
		if t.Failed() {
			t.Fatal(c.what)
		}
	}
}

// P5.2: a book counts with its own Window and Drift.
func TestTakeByRules(t *testing.T) {
	slow := newBook(t, 10, 0)
	takes(t, slow, flare(0, 0, 0), 0, api.Nothing)
	takes(t, slow, flare(10, 0, 0), 0, api.Alone)
	takes(t, slow, flare(10, 1, 0), 1, api.Nothing)
	takes(t, slow, flare(21, 0, 0), 2, api.Nothing)
	fast := newBook(t, api.MaxWindow, api.MaxDrift)
	takes(t, fast, flare(0, -place, 0), 0, api.Nothing)
	takes(t, fast, flare(api.MaxWindow, 16800001-place, 0), 1, api.Nothing)
	takes(t, fast, flare(api.MaxWindow, 16800000-place, 0), 0, api.Alone)
	none := newBook(t, 0, 0)
	takes(t, none, flare(0, 0, 0), 0, api.Nothing)
	takes(t, none, flare(0, 0, 0), 0, api.Alone)
	takes(t, none, flare(1, 0, 0), 1, api.Nothing)
}

// P5.2: what is refused, and that nothing has changed then.
func TestTakeOfWrong(t *testing.T) {
	k := bookOf(t, flare(0, 0, 0), beacon("x", 90, 5000, 0))
	before := pictureOf(k)
	for _, r := range wrongReports() {
		if i, why, e := k.Take(r); i != 0 || why != 0 || e != api.ErrArg {
			t.Errorf("%v: %d, %d, error %d", r, i, why, e)
		}
	}
	stays(t, "wrong reports", k, before)
	takes(t, k, call(1, 0, 0), 0, api.Alone)
}

// P5.2: a book has room for MaxReports reports, and each of them can begin an incident.
func TestTakeFull(t *testing.T) {
	k := newBook(t, 0, 0)
	for n := range api.MaxReports {
		takes(t, k, with(1, flare(n, 0, 0)), n, api.Nothing)
	}
	before := pictureOf(k)
	for _, r := range []api.Report{flare(0, 0, 0), beacon("x", api.MaxReports, 0, 0)} {
		if i, why, e := k.Take(r); i != 0 || why != 0 || e != api.ErrFull {
			t.Errorf("one more: %d, %d, error %d", i, why, e)
		}
	}
	for _, r := range wrongReports() {
		if i, why, e := k.Take(r); i != 0 || why != 0 || e != api.ErrArg {
			t.Errorf("one more, a wrong one: %d, %d, error %d", i, why, e)
		}
	}
	stays(t, "a full book", k, before)
	for n := 1; n < api.MaxReports; n++ {
		joins(t, k, 0, n, api.OK)
	}
	if _, _, e := k.Take(flare(0, 0, 0)); e != api.ErrFull {
		t.Errorf("joined, one more: error %d", e)
	}
	proves(t, k, foundBy(0, api.MaxReports, 1), api.OK)
	misses(t, k, 0)
	closes(t, k, 0, -1, api.OK)
	if _, _, e := k.Take(flare(0, 0, 0)); e != api.ErrFull {
		t.Errorf("closed, one more: error %d", e)
	}
}

// R4, P2: a book keeps no memory of an argument, and gives none away.
func TestTakeMemory(t *testing.T) {
	area := spots(0, 0, 10, 0, 0, 10)
	r := flare(0)
	r.Where = area
	k := newBook(t, 3600, 3600)
	takes(t, k, r, 0, api.Nothing)
	area[0] = api.Spot{X: -5000}
	if got, _, _ := k.Report(0); !slices.Equal(got.Where, spots(0, 0, 10, 0, 0, 10)) {
		t.Errorf("the argument is kept: %v", got)
	}
	got, _, _ := k.Report(0)
	got.Where[1] = api.Spot{X: 5000}
	takes(t, k, flare(0, 5000, 0), 1, api.Nothing)
	takes(t, k, flare(0, 5000, 0), 1, api.Alone)
	for _, list := range []func() []int{
		k.Open,
		func() []int { l, _ := k.Reports(1); return l },
		func() []int { l, _ := k.Missing(1); return l },
	} {
		l := list()
		want := slices.Clone(l)
		_ = append(l[:1], 77)
		l[0] = 77
		if again := list(); !slices.Equal(again, want) {
			t.Errorf("what was returned is kept: %v, then %v", want, again)
		}
	}
	if got, _, _ := k.Report(0); !same(got, flare(0, 0, 0, 10, 0, 0, 10)) {
		t.Errorf("the report is %v", got)
	}
	if !slices.Equal(area, spots(-5000, 0, 10, 0, 0, 10)) {
		t.Errorf("the argument is %v", area)
	}
}

// P2: two books share nothing.
func TestTwoBooks(t *testing.T) {
	a, b := newBook(t, 3600, 3600), newBook(t, 3600, 0)
	takes(t, a, flare(0, 0, 0), 0, api.Nothing)
	takes(t, b, beacon("x", 0, 0, 0), 0, api.Nothing)
	before := pictureOf(b)
	takes(t, a, flare(60, 60, 0), 0, api.Alone)
	proves(t, a, foundBy(0, 60, 1), api.OK)
	closes(t, a, 0, -1, api.OK)
	stays(t, "another book", b, before)
	isOpen(t, b, 0)
	takes(t, b, flare(60, 60, 0), 1, api.Nothing)
	has(t, a, 0, 0, 1)
}
