package incident_test

import (
	"math/rand"
	"slices"
	"strings"
	"testing"

	"cresset/api"
	"cresset/incident"
)

const (
	place = api.MaxPlace
	big   = 1<<63 - 1
	small = -1 << 63
)

// longName is the longest name.
var longName = "a" + strings.Repeat("9", api.MaxName-1)

// spots returns the places with these coordinates.
func spots(coordinates ...int) []api.Spot {
	var l []api.Spot
	for i := 0; i+1 < len(coordinates); i += 2 {
		l = append(l, api.Spot{X: coordinates[i], Y: coordinates[i+1]})
	}
	return l
}

// call returns a call by kestrel at a time in an area, about nothing.
func call(time int, area ...int) api.Report {
	return api.Report{Kind: api.Call, Time: time, Source: "kestrel", Where: spots(area...), Souls: 4, Trust: 700}
}

// callAbout returns a call that is about somebody.
func callAbout(about string, time int, area ...int) api.Report {
	r := call(time, area...)
	r.About = about
	return r
}

// flare returns a flare that was seen by buzzard.
func flare(time int, area ...int) api.Report {
	return api.Report{Kind: api.Flare, Time: time, Source: "buzzard", Where: spots(area...), Souls: -1, Trust: 300}
}

// beacon returns a beacon that sat-1 has heard.
func beacon(about string, time int, area ...int) api.Report {
	return api.Report{Kind: api.Beacon, Time: time, Source: "sat-1", About: about, Where: spots(area...), Souls: -1, Trust: 500}
}

// overdue returns a report by the harbour of what is missed.
func overdue(about string, time int, area ...int) api.Report {
	return api.Report{Kind: api.Missing, Time: time, Source: "harbour", About: about, Where: spots(area...), Souls: 2, Trust: 400}
}

// with returns a report for so many persons.
func with(souls int, r api.Report) api.Report {
	r.Souls = souls
	return r
}

// proof returns a proof of a report, in (0, 0).
func proof(kind, report, time int, by string, count int) api.Proof {
	return api.Proof{Kind: kind, Report: report, Time: time, By: by, Where: spots(0, 0), Count: count}
}

// foundBy returns the proof that so many persons were found.
func foundBy(report, time, count int) api.Proof {
	return proof(api.Found, report, time, "heron", count)
}

// wrongReports returns reports that are not valid.
func wrongReports() []api.Report {
	var l []api.Report
	for _, change := range []func(r *api.Report){
		func(r *api.Report) { r.Kind = 0 },
		func(r *api.Report) { r.Kind = 5 },
		func(r *api.Report) { r.Time = -1 },
		func(r *api.Report) { r.Time = api.MaxTime + 1 },
		func(r *api.Report) { r.Source = "" },
		func(r *api.Report) { r.About = "A" },
		func(r *api.Report) { r.Kind = api.Beacon },
		func(r *api.Report) { r.Kind = api.Missing },
		func(r *api.Report) { r.Where = nil },
		func(r *api.Report) { r.Where = spots(0, 0, 0, 0) },
		func(r *api.Report) { r.Where = spots(place+1, 0) },
		func(r *api.Report) { r.Souls = -2 },
		func(r *api.Report) { r.Souls = api.MaxSouls + 1 },
		func(r *api.Report) { r.Trust = api.Whole + 1 },
		func(r *api.Report) { *r = api.Report{} },
	} {
		r := call(60, 0, 0)
		change(&r)
		l = append(l, r)
	}
	return l
}

// newBook returns a book without reports.
func newBook(t *testing.T, window, drift int) *incident.Book {
	t.Helper()
	k, e := incident.New(window, drift)
	if e != api.OK || k == nil {
		t.Fatalf("a book with %d and %d has the error %d", window, drift, e)
	}
	return k
}

// bookOf returns a book with the Window and the Drift 3600, and these reports.
func bookOf(t *testing.T, l ...api.Report) *incident.Book {
	t.Helper()
	k := newBook(t, 3600, 3600)
	for i, r := range l {
		if _, _, e := k.Take(r); e != api.OK {
			t.Fatalf("the report %d has the error %d", i, e)
		}
	}
	return k
}

// takes checks which incident gets a report, and why.
func takes(t *testing.T, k *incident.Book, r api.Report, incident, reason int) {
	t.Helper()
	if i, why, e := k.Take(r); i != incident || why != reason || e != api.OK {
		t.Fatalf("%v: incident %d for the reason %d, error %d; want %d for %d", r, i, why, e, incident, reason)
	}
}

// proves checks what Prove returns.
func proves(t *testing.T, k *incident.Book, p api.Proof, want api.Errno) {
	t.Helper()
	if e := k.Prove(p); e != want {
		t.Fatalf("%v: error %d, want %d", p, e, want)
	}
}

// closes checks what Close returns.
func closes(t *testing.T, k *incident.Book, incident, report int, want api.Errno) {
	t.Helper()
	if n, e := k.Close(incident); n != report || e != want {
		t.Fatalf("Close of %d: %d, error %d; want %d, error %d", incident, n, e, report, want)
	}
}

// joins checks what Join returns.
func joins(t *testing.T, k *incident.Book, a, b int, want api.Errno) {
	t.Helper()
	if e := k.Join(a, b); e != want {
		t.Fatalf("Join of %d and %d: error %d, want %d", a, b, e, want)
	}
}

// isOpen checks which incidents are open.
func isOpen(t *testing.T, k *incident.Book, want ...int) {
	t.Helper()
	if l := k.Open(); !slices.Equal(l, want) {
		t.Fatalf("open are %v, want %v", l, want)
	}
}

// has checks which reports an incident has.
func has(t *testing.T, k *incident.Book, incident int, want ...int) {
	t.Helper()
	if l, e := k.Reports(incident); !slices.Equal(l, want) || e != api.OK {
		t.Fatalf("the incident %d has %v, error %d; want %v", incident, l, e, want)
	}
	for _, n := range want {
		if _, i, e := k.Report(n); i != incident || e != api.OK {
			t.Fatalf("the report %d is in %d, error %d; want %d", n, i, e, incident)
		}
	}
}

// misses checks which reports of an incident are not settled.
func misses(t *testing.T, k *incident.Book, incident int, want ...int) {
	t.Helper()
	if l, e := k.Missing(incident); !slices.Equal(l, want) || e != api.OK {
		t.Fatalf("the incident %d misses %v, error %d; want %v", incident, l, e, want)
	}
}

// same reports whether two reports are equal.
func same(a, b api.Report) bool {
	return slices.Equal(a.Where, b.Where) && a.Kind == b.Kind && a.Time == b.Time && a.Source == b.Source && a.About == b.About && a.Souls == b.Souls && a.Trust == b.Trust
}

// isZero reports whether r is the zero value.
func isZero(r api.Report) bool {
	return same(r, api.Report{})
}

// picture is all that a book tells of itself.
type picture struct {
	reports   []api.Report
	incidents []int
	open      []int
	has       [][]int
	misses    [][]int
}

// pictureOf asks a book for all that it tells.
func pictureOf(k *incident.Book) picture {
	p := picture{open: k.Open()}
	for n := range api.MaxReports + 1 {
		r, i, e := k.Report(n)
		if e != api.OK {
			break
		}
		p.reports, p.incidents = append(p.reports, r), append(p.incidents, i)
	}
	for i := range api.MaxReports + 1 {
		l, e := k.Reports(i)
		if e != api.OK {
			break
		}
		m, _ := k.Missing(i)
		p.has, p.misses = append(p.has, l), append(p.misses, m)
	}
	return p
}

// equals reports whether two books have told the same.
func (p picture) equals(q picture) bool {
	lists := func(a, b []int) bool { return slices.Equal(a, b) }
	return slices.EqualFunc(p.reports, q.reports, same) && slices.Equal(p.incidents, q.incidents) && slices.Equal(p.open, q.open) &&
		slices.EqualFunc(p.has, q.has, lists) && slices.EqualFunc(p.misses, q.misses, lists)
}

// stays checks that a book tells what it told before.
func stays(t *testing.T, what string, k *incident.Book, before picture) {
	t.Helper()
	if now := pictureOf(k); !now.equals(before) {
		t.Fatalf("%s: the book was %v, and is %v", what, before, now)
	}
}

// oneOf returns an element of a list.
func oneOf[T any](random *rand.Rand, l ...T) T {
	return l[random.Intn(len(l))]
}

// someArea returns an area near to (0, 0).
func someArea(random *rand.Rand) []api.Spot {
	x, y := random.Intn(81)-40, random.Intn(81)-40
	a, b := 1+random.Intn(20), 1+random.Intn(20)
	switch random.Intn(4) {
	case 0:
		return spots(x, y)
	case 1:
		return spots(x, y, x+a, y-b)
	case 2:
		return spots(x, y, x+a, y+b, x-b, y+a)
	}
	return spots(x+a, y+b, x, y+b, x, y, x+a, y)
}

// someReport returns a valid report, of few names and places, so that many belong together.
func someReport(random *rand.Rand) api.Report {
	r := api.Report{
		Kind: 1 + random.Intn(4), Time: random.Intn(60), Source: oneOf(random, "a", "b", "c"),
		Where: someArea(random), Souls: oneOf(random, -1, -1, 0, 1, 2, 3), Trust: random.Intn(api.Whole + 1),
	}
	if r.Kind == api.Beacon || r.Kind == api.Missing || random.Intn(4) == 0 {
		r.About = oneOf(random, "a", "b", "c", "d")
	}
	return r
}

// someProof returns a proof of one of so many reports, often one that is valid and fits.
func someProof(random *rand.Rand, reports []api.Report) api.Proof {
	n := random.Intn(len(reports)+2) - 1
	p := api.Proof{Kind: random.Intn(7), Report: n, Time: random.Intn(100), By: oneOf(random, "a", "b", "c", "d"), Where: someArea(random)}
	if p.Kind == api.Found || random.Intn(10) == 0 {
		p.Count = random.Intn(5) - 1
	}
	switch random.Intn(20) {
	case 0:
		p.By = oneOf(random, "", "A", longName+"a")
	case 1:
		p.Where = nil
	case 2:
		p.Time = oneOf(random, small, -1, api.MaxTime, api.MaxTime+1, big)
	case 3:
		p.Count = oneOf(random, small, api.MaxSouls, api.MaxSouls+1, big)
	}
	return p
}
