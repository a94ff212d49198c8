package incident_test

import (
	"math/rand"
	"testing"

	"cresset/api"
	"cresset/incident"
)

// compares checks what Compare returns, in both orders.
func compares(t *testing.T, what string, a, b api.Report, window, drift, want int, e api.Errno) {
	t.Helper()
	if n, fault := incident.Compare(a, b, window, drift); n != want || fault != e {
		t.Errorf("%s: %d, error %d; want %d, error %d", what, n, fault, want, e)
	}
	if n, fault := incident.Compare(b, a, window, drift); n != want || fault != e {
		t.Errorf("%s, turned: %d, error %d; want %d, error %d", what, n, fault, want, e)
	}
}

// P5.1: the lines, and which one is first.
func TestCompareLines(t *testing.T) {
	for _, c := range []struct {
		what string
		a, b api.Report
		want int
	}{
		{"the first example", call(0, 0, 0), call(60, 30, 60), api.Near},
		{"the second example", call(0, 0, 0), call(60, 0, 61), api.TooFar},
		{"the same name", callAbout("x", 0, 0, 0), callAbout("x", 60, 30, 60), api.SameOne},
		{"the same name, late and far", callAbout("x", 0, 0, 0), beacon("x", api.MaxTime, place, place), api.SameOne},
		{"the same name, of two kinds", overdue("x", 0, 0, 0), beacon("x", 0, 0, 0), api.SameOne},
		{"the longest name", callAbout(longName, 0, 0, 0), callAbout(longName, 0, 9, 9), api.SameOne},
		{"other names", callAbout("x", 0, 0, 0), callAbout("y", 0, 0, 0), api.OtherOne},
		{"other names, late and far", beacon("x", 0, 0, 0), overdue("y", api.MaxTime, place, place), api.OtherOne},
		{"a name that goes on", callAbout("x", 0, 0, 0), callAbout("x1", 0, 0, 0), api.OtherOne},
		{"one name is not known", callAbout("x", 0, 0, 0), call(0, 0, 0), api.Near},
		{"one name is not known, late", beacon("x", 0, 0, 0), flare(3601, 0, 0), api.TooLate},
		{"one name is not known, far", beacon("x", 0, 0, 0), flare(0, 1, 0), api.TooFar},
		{"a source is not a name", callAbout("kestrel", 0, 0, 0), call(0, 0, 0), api.Near},
		{"no name is known", call(0, 0, 0), call(0, 0, 0), api.Near},
		{"of two kinds", call(0, 0, 0), flare(0, 0, 0), api.Near},
		{"late and far", call(0, 0, 0), call(3601, place, 0), api.TooLate},
		{"late", call(0, 0, 0), call(3601, 0, 0), api.TooLate},
		{"just not late", call(0, 0, 0), call(3600, 0, 0), api.Near},
		{"just not late, far", call(0, 0, 0), call(3600, 3601, 0), api.TooFar},
		{"at the end of all times, and at the first one", call(api.MaxTime, 0, 0), call(0, 0, 0), api.TooLate},
		{"at the end of all times", call(api.MaxTime, 0, 0), call(api.MaxTime-3600, 3600, -3600), api.Near},
	} {
		compares(t, c.what, c.a, c.b, 3600, 3600, c.want, api.OK)
	}
}

// P5.1: how late, and how far.
func TestCompareBounds(t *testing.T) {
	const day, week = 86400, api.MaxWindow
	for _, c := range []struct {
		what          string
		apart         int
		x, y          int
		window, drift int
		want          int
	}{
		{"no window", 0, 0, 0, 0, 0, api.Near},
		{"no window, later", 1, 0, 0, 0, 100, api.TooLate},
		{"no drift", day, 0, 0, day, 0, api.Near},
		{"no drift, beside it", day, 1, 0, day, 0, api.TooFar},
		{"no time", 0, 0, -1, day, api.MaxDrift, api.TooFar},
		{"a metre, rounded up", 1, 1, 1, day, 1, api.Near},
		{"a metre, rounded up, beside it", 1, 1, 2, day, 1, api.TooFar},
		{"a metre, just reached", 1, -1, 0, day, 3600, api.Near},
		{"a metre, beside it", 1, -2, 0, day, 3600, api.TooFar},
		{"two metres, rounded up", 1, -2, 2, day, 3601, api.Near},
		{"two metres, beside it", 1, -2, 3, day, 7200, api.TooFar},
		{"a metre in an hour", 3600, 0, 1, day, 1, api.Near},
		{"a metre in an hour, beside it", 3600, 0, 2, day, 1, api.TooFar},
		{"a metre in an hour and a second", 3601, 0, 2, day, 1, api.Near},
		{"a third", 1200, 34, 0, day, 100, api.Near},
		{"a third, beside it", 1200, 35, 0, day, 100, api.TooFar},
		{"the greatest window and drift", week, -place + 200000, 16800000 - place, week, api.MaxDrift, api.Near},
		{"the greatest window, later", week + 1, 0, 0, week, api.MaxDrift, api.TooLate},
		{"the greatest drift, too far up", week, 0, 16800001 - place, week, api.MaxDrift, api.TooFar},
	} {
		from := call(100, 0, 0)
		if c.apart == week && c.drift == api.MaxDrift { // as far as it can go, from the edge of all places
			from = call(100, 0, -place)
		}
		compares(t, c.what, from, call(100+c.apart, c.x, c.y), c.window, c.drift, c.want, api.OK)
	}
}

// P5.1: the gap is one between boxes.
func TestCompareAreas(t *testing.T) {
	triangle := []int{0, 0, 10, 0, 0, 10}
	for _, c := range []struct {
		what string
		a, b []int
		want int
	}{
		{"in a box, not in the area", triangle, []int{10, 10}, api.Near},
		{"in an area", triangle, []int{1, 1}, api.Near},
		{"to the right", triangle, []int{11, 5}, api.TooFar},
		{"to the left", triangle, []int{-1, 5}, api.TooFar},
		{"above", triangle, []int{5, 11}, api.TooFar},
		{"below", triangle, []int{5, -1}, api.TooFar},
		{"at the corner", triangle, []int{11, 11}, api.TooFar},
		{"a line that touches", triangle, []int{10, 20, 30, -5}, api.Near},
		{"a line beside it", triangle, []int{11, 20, 30, -5}, api.TooFar},
		{"a box around it", triangle, []int{-50, -50, 50, -50, 50, 50, -50, 50}, api.Near},
		{"two lines that cross", []int{-9, 0, 9, 0}, []int{0, 7, 0, -7}, api.Near},
		{"two lines, whose boxes meet", []int{0, 0, 9, 9}, []int{5, 0, 9, 4}, api.Near},
		{"two lines, one above the other one", []int{0, 0, 9, 0}, []int{0, 1, 9, 1}, api.TooFar},
		{"a last corner that counts", []int{5, 0, 9, 5, -7, 3}, []int{-7, 0}, api.Near},
		{"a middle corner that counts", []int{0, 0, 9, -9, 5, 5}, []int{1, -9}, api.Near},
	} {
		compares(t, c.what, call(0, c.a...), flare(0, c.b...), 0, 3600, c.want, api.OK)
	}
	compares(t, "to the right, later", call(0, triangle...), call(1, 11, 5), 1, 3600, api.Near, api.OK)
	compares(t, "below, later", call(0, triangle...), call(2, 5, -3), 2, 3600, api.TooFar, api.OK)
	compares(t, "from one end to the other one", call(0, -place, -place, 0, -place), call(0, place, place), 0, api.MaxDrift, api.TooFar, api.OK)
}

// P5.1: what is refused.
func TestCompareOfWrong(t *testing.T) {
	right := call(0, 0, 0)
	for _, wrong := range wrongReports() {
		compares(t, "a wrong report", right, wrong, 3600, 3600, 0, api.ErrArg)
		compares(t, "two wrong reports", wrong, wrong, 3600, 3600, 0, api.ErrArg)
		compares(t, "a wrong report and a wrong window", right, wrong, -1, 3600, 0, api.ErrArg)
		compares(t, "a wrong report and a wrong drift", right, wrong, 3600, api.MaxDrift+1, 0, api.ErrArg)
	}
	for _, n := range []int{small, -1, api.MaxWindow + 1, big} {
		compares(t, "a wrong window", right, right, n, 0, 0, api.ErrRange)
		compares(t, "a wrong window, and the same names", beacon("x", 0, 0, 0), beacon("x", 0, 0, 0), n, 0, 0, api.ErrRange)
	}
	for _, n := range []int{small, -1, api.MaxDrift + 1, big} {
		compares(t, "a wrong drift", right, right, 0, n, 0, api.ErrRange)
		compares(t, "a wrong drift and a wrong window", right, right, -1, n, 0, api.ErrRange)
	}
	compares(t, "the greatest window and drift", right, right, api.MaxWindow, api.MaxDrift, api.Near, api.OK)
	compares(t, "the least window and drift", right, right, 0, 0, api.Near, api.OK)
}

// P5.1, P5.10: any two reports, as the document compares them.
func TestCompareOfSome(t *testing.T) {
	random := rand.New(rand.NewSource(51))
	var seen [6]int
	for range 50000 {
		a, b := someReport(random), someReport(random)
		m := model{window: random.Intn(70), drift: oneOf(random, 0, 1, random.Intn(5000), 3600)}
		want := m.compare(a, b)
		seen[want]++
		compares(t, "some", a, b, m.window, m.drift, want, api.OK)
		if t.Failed() {
			t.Fatal(a, b, m)
		}
	}
	for n := api.SameOne; n <= api.Near; n++ {
		if seen[n] < 1000 {
			t.Errorf("just %d pairs of %d", seen[n], n)
		}
	}
}
