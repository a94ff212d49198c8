package incident_test

import (
	"math/rand"
	"slices"
	"testing"

	"cresset/api"
	"cresset/incident"
)

// pair is a book, and the model that it must be like.
type pair struct {
	book  *incident.Book
	model *model
}

// action is what was done last with a book: what is asked for, with which incidents, and what came of it.
type action struct {
	kind, a, b int
	e          api.Errno
}

const (
	take = iota
	prove
	end
	join
)

// do does something with both a book and its model, and checks that they return the same.
func (p pair) do(t *testing.T, random *rand.Rand) action {
	t.Helper()
	a, b := random.Intn(len(p.model.incidents)+2)-1, random.Intn(len(p.model.incidents)+2)-1
	act := action{kind: oneOf(random, take, take, take, prove, prove, prove, end, end, join), a: a, b: b}
	switch act.kind {
	case take:
		r := someReport(random)
		i, why, e := p.book.Take(r)
		if want, reason := p.model.take(r); i != want || why != reason || e != api.OK {
			t.Fatalf("Take of %v: %d, %d, error %d; want %d, %d", r, i, why, e, want, reason)
		}
		act.a, act.b = i, why
	case prove:
		proof := someProof(random, p.model.reports)
		act.e = p.model.prove(proof)
		proves(t, p.book, proof, act.e)
	case end:
		n, e := p.model.end(a)
		closes(t, p.book, a, n, e)
		act.b, act.e = n, e
	case join:
		act.e = p.model.join(a, b)
		joins(t, p.book, a, b, act.e)
	}
	return act
}

// P5.2 to P5.6, P2: two books, of which now one and now the other one is used, tell at each time what the document says.
func TestBooksOfSome(t *testing.T) {
	random := rand.New(rand.NewSource(52))
	var done [4][12]int
	var reasons [5]int
	for range 600 {
		var pairs []pair
		for range 2 {
			m := &model{window: oneOf(random, 0, 5, 20, 60), drift: oneOf(random, 0, 100, 1000, 3600)}
			pairs = append(pairs, pair{newBook(t, m.window, m.drift), m})
		}
		for range 50 {
			p := pairs[random.Intn(2)]
			before := pictureOf(p.book)
			act := p.do(t, random)
			done[act.kind][act.e]++
			if act.kind == take {
				reasons[act.b]++
			}
			if act.e != api.OK {
				stays(t, "refused", p.book, before)
			}
			follows(t, p, act, before)
			for _, q := range pairs {
				stays(t, "what the document says", q.book, q.model.picture())
			}
		}
	}
	for reason := api.Claimed; reason <= api.Nothing; reason++ {
		if reasons[reason] < 100 {
			t.Errorf("the reason %d was seen %d times", reason, reasons[reason])
		}
	}
	for kind, errors := range [...][]api.Errno{{api.OK}, {api.OK, api.ErrNone, api.ErrArg}, {api.OK, api.ErrNone, api.ErrState}, {api.OK, api.ErrNone, api.ErrArg, api.ErrState}} {
		for _, e := range errors {
			if done[kind][e] < 50 {
				t.Errorf("the action %d ended %d times with the error %d", kind, done[kind][e], e)
			}
		}
	}
}

// follows checks what follows from the document, whatever was done.
func follows(t *testing.T, p pair, act action, before picture) {
	t.Helper()
	now := pictureOf(p.book)
	closedJustByProofs(t, act, before, now)
	inOneIncident(t, now)
	apart(t, now)
	if act.kind != take {
		return
	}
	if !slices.Contains(now.open, act.a) || now.incidents[len(now.incidents)-1] != act.a {
		t.Fatalf("after %v the incident is closed, or has no report: %v", act, now)
	}
	if act.b == api.Alone {
		r := now.reports[len(now.reports)-1]
		if !slices.ContainsFunc(before.has[act.a], func(n int) bool {
			what, e := incident.Compare(r, now.reports[n], p.model.window, p.model.drift)
			return what == api.Near && e == api.OK
		}) {
			t.Fatalf("%v is near to nothing of the incident %d", r, act.a)
		}
	}
}

// closedJustByProofs is P5.7.
func closedJustByProofs(t *testing.T, act action, before, now picture) {
	t.Helper()
	for _, i := range before.open {
		if slices.Contains(now.open, i) {
			continue
		}
		byClose := act.kind == end && act.a == i && len(before.misses[i])+len(now.misses[i]) == 0
		byJoin := act.kind == join && act.b == i && len(now.has[i]) == 0
		if act.e != api.OK || !byClose && !byJoin {
			t.Fatalf("%v has closed the incident %d: %v, then %v", act, i, before, now)
		}
	}
}

// inOneIncident is P5.8.
func inOneIncident(t *testing.T, now picture) {
	t.Helper()
	var all []int
	for i, l := range now.has {
		if !slices.IsSorted(l) {
			t.Fatalf("%v do not rise", l)
		}
		for _, n := range l {
			if now.incidents[n] != i {
				t.Fatalf("the report %d is in %d and in %d", n, i, now.incidents[n])
			}
		}
		all = append(all, l...)
	}
	slices.Sort(all)
	for n, got := range all {
		if n != got {
			t.Fatalf("in incidents are %v", all)
		}
	}
	if len(all) != len(now.reports) {
		t.Fatalf("in incidents are %v of %d", all, len(now.reports))
	}
}

// apart is P5.9.
func apart(t *testing.T, now picture) {
	t.Helper()
	for m, a := range now.reports {
		for n, b := range now.reports {
			what, _ := incident.Compare(a, b, 0, 0)
			together := now.incidents[m] == now.incidents[n]
			if together && what == api.OtherOne || !together && what == api.SameOne {
				t.Fatalf("%d in %d and %d in %d are %d", m, now.incidents[m], n, now.incidents[n], what)
			}
		}
	}
}

// P5.7: an incident whose reports are all settled stays open, whatever is done, until it is closed.
func TestNoSilence(t *testing.T) {
	k := bookOf(t, beacon("x", 0, 0, 0))
	proves(t, k, proof(api.Owner, 0, 10, "x", 0), api.OK)
	misses(t, k, 0)
	isOpen(t, k, 0)
	proves(t, k, foundBy(0, api.MaxTime, api.MaxSouls), api.OK)
	takes(t, k, beacon("x", 0, 0, 0), 0, api.Claimed) // it is settled by what was found
	takes(t, k, beacon("y", api.MaxTime, 0, 0), 1, api.Nothing)
	takes(t, k, flare(5, 0, 0), 0, api.Alone)
	closes(t, k, 1, 2, api.ErrState)
	joins(t, k, 0, 0, api.ErrArg)
	joins(t, k, 1, 0, api.ErrState)
	has(t, k, 0, 0, 1, 3)
	misses(t, k, 0)
	isOpen(t, k, 0, 1)
	closes(t, k, 0, -1, api.OK)
	isOpen(t, k, 1)
	takes(t, k, beacon("x", api.MaxTime, 0, 0), 0, api.Claimed)
	isOpen(t, k, 0, 1)
}

// P1: nothing panics, and all ends, whatever the arguments are.
func TestBooksOfAny(t *testing.T) {
	numbers := []int{small, -place - 1, -1, 0, 1, 2, 5, place, api.MaxTime, big}
	names := []string{"", "a", longName, "\xff\x00", "A b"}
	areas := [][]api.Spot{nil, {}, spots(0, 0), spots(small, big), spots(0, 0, 0, 0), spots(big, big, small, small, big, small), make([]api.Spot, 100)}
	random := rand.New(rand.NewSource(53))
	k := bookOf(t, flare(0, 0, 0), beacon("a", 0, 0, 0))
	for range 20000 {
		n := func() int { return oneOf(random, numbers...) }
		report := func() api.Report {
			return api.Report{Kind: n(), Time: n(), Source: oneOf(random, names...), About: oneOf(random, names...), Where: oneOf(random, areas...), Souls: n(), Trust: n()}
		}
		if what, e := incident.Compare(report(), report(), n(), n()); (what == 0) != (e != api.OK) {
			t.Fatalf("Compare: %d, error %d", what, e)
		}
		if got, e := incident.New(n(), n()); (got == nil) != (e != api.OK) {
			t.Fatalf("New: %v, error %d", got, e)
		}
		if i, why, e := k.Take(report()); (why == 0) != (e != api.OK) || e != api.OK && i != 0 {
			t.Fatalf("Take: %d, %d, error %d", i, why, e)
		}
		k.Prove(api.Proof{Kind: n(), Report: n(), Time: n(), By: oneOf(random, names...), Where: oneOf(random, areas...), Count: n()})
		if i, e := k.Close(n()); e != api.ErrState && i != -1 {
			t.Fatalf("Close: %d, error %d", i, e)
		}
		k.Join(n(), n())
		if l, e := k.Reports(n()); e != api.OK && len(l) != 0 {
			t.Fatalf("Reports: %v, error %d", l, e)
		}
		if r, i, e := k.Report(n()); e != api.OK && (i != 0 || !isZero(r)) {
			t.Fatalf("Report: %v, %d, error %d", r, i, e)
		}
		if l, e := k.Missing(n()); e != api.OK && len(l) != 0 {
			t.Fatalf("Missing: %v, error %d", l, e)
		}
	}
}
