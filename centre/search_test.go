package centre_test

import (
	"testing"

	"cresset/api"
	"cresset/centre"
)

// The chapter's examples.
func TestExamples(t *testing.T) {
	c := newCentre(t, rules())
	decides(t, c, hear(call(60, 0, 0)), gets(0, 4))
	decides(t, c, begin(0, raft()), leaves(0, of(1, 1)))
	decides(t, c, suspend(0), api.Decision{Error: api.ErrState, Left: of(1, 1)})
	decides(t, c, look(0, vain(0)), leaves(0, of(1, 2)))
	decides(t, c, look(0, vain(0)), leaves(0, of(1, 4)))
	decides(t, c, look(0, vain(0)), leaves(0, of(1, 8)))
	decides(t, c, suspend(0), leaves(0, of(1, 8)))
	if line, e := c.Line(6); line != "6 suspend ok 0 0 left 1/8" || e != api.OK {
		t.Errorf("the line is %q, error %d", line, e)
	}
	decides(t, c, hear(call(90, 30, 30)), gets(0, 2))
	stands(t, c, 0, searched(api.Active, 0, 3, of(1, 8)))
	decides(t, c, closing(0), api.Decision{Error: api.ErrState})
}

// noIncident checks that a matter of no incident is refused, whatever else is wrong with it.
func noIncident(t *testing.T, matter func(n int) api.Matter) {
	t.Helper()
	refuses(t, newCentre(t, rules()), api.ErrNone, matter(0), matter(-1), matter(big))
	c := centreOf(t, hear(call(60, 0, 0)), begin(0, raft()), hear(call(60, 5000, 0)))
	for _, n := range outside(0, 1) {
		refuses(t, c, api.ErrNone, matter(n))
	}
}

// noSearch checks that a matter is refused of an incident that has no search, and of one that is closed.
func noSearch(t *testing.T, m api.Matter) {
	t.Helper()
	refuses(t, centreOf(t, hear(call(60, 0, 0)), hear(call(60, 5000, 0)), begin(1, raft())), api.ErrState, m)
	refuses(t, centreOf(t, hear(call(60, 0, 0)), begin(0, raft()), prove(withdrawn(0, 60)), closing(0)), api.ErrState, m)
}

func TestBegin(t *testing.T) {
	c := centreOf(t, hear(call(60, 0, 0)), hear(call(60, 5000, 0)))
	for _, b := range wrongBeliefs() {
		refuses(t, c, api.ErrArg, begin(1, b))
	}
	decides(t, c, begin(1, drifter()), leaves(1, of(1, 1)))
	stands(t, c, 0, open())
	stands(t, c, 1, searched(api.Active, 0, 0, of(1, 1)))
	decides(t, c, begin(0, raft()), leaves(0, of(1, 1)))
	stands(t, c, 0, searched(api.Active, 0, 0, of(1, 1)))
}

func TestBeginRefuses(t *testing.T) {
	for _, b := range append(wrongBeliefs(), raft()) {
		noIncident(t, func(n int) api.Matter { return begin(n, b) })
		active := centreOf(t, hear(call(60, 0, 0)), begin(0, raft()), look(0, vain(0)), look(0, vain(0)))
		refuses(t, active, api.ErrState, begin(0, b))
		decides(t, active, suspend(0), leaves(0, of(1, 4)))
		refuses(t, active, api.ErrState, begin(0, b))
		refuses(t, centreOf(t, hear(call(60, 0, 0)), prove(withdrawn(0, 60)), closing(0)), api.ErrState, begin(0, b))
	}
}

// Begin: that the weights of a belief do not fit, is told by what comes behind it.
func TestBeginFine(t *testing.T) {
	if e := filterOf(fine(40), 0); e != api.ErrRange {
		t.Fatalf("Filter has the error %d", e)
	}
	c := centreOf(t, hear(call(60, 0, 0)), begin(0, fine(40)))
	stands(t, c, 0, searched(api.Active, 0, 0, of(1, 1)))
	refuses(t, c, api.ErrRange, pass(0), look(0, vain(0)))
	decides(t, c, suspend(0), api.Decision{Error: api.ErrState, Left: of(1, 1)})
}

func TestPass(t *testing.T) {
	c := centreOf(t, hear(call(60, 0, 0)), begin(0, drifter()), hear(call(60, 5000, 0)), begin(1, drifter()))
	decides(t, c, look(0, vain(0)), leaves(0, of(1, 2)))
	for step := 1; step <= api.MaxTimes; step++ {
		decides(t, c, pass(0), leaves(0, of(1, 2)))
		stands(t, c, 0, searched(api.Active, step, 1, of(1, 2)))
	}
	refuses(t, c, api.ErrRange, pass(0))
	stands(t, c, 1, searched(api.Active, 0, 0, of(1, 1)))
	decides(t, c, look(0, vain(api.MaxTimes)), leaves(0, of(1<<33-1, 1<<34)))
	refuses(t, c, api.ErrRange, pass(0))
	decides(t, c, pass(1), leaves(1, of(1, 1)))
}

func TestPassRefuses(t *testing.T) {
	noIncident(t, pass)
	noSearch(t, pass(0))
	c := centreOf(t, hear(call(60, 0, 0)), begin(0, fine(36)))
	for step := 1; filterOf(fine(36), step) == api.OK; step++ {
		decides(t, c, pass(0), leaves(0, of(1, 1)))
	}
	s, _ := c.Status(0)
	if s.Steps == 0 || s.Steps == api.MaxTimes {
		t.Fatalf("it stands %v", s)
	}
	refuses(t, c, api.ErrRange, pass(0))
}

// Pass: a search that is suspended goes on in time, and stays suspended.
func TestPassSuspended(t *testing.T) {
	c := centreOf(t, hear(call(60, 0, 0)), begin(0, drifter()), look(0, vain(0)), look(0, vain(0)), suspend(0))
	for step := 1; step <= api.MaxTimes; step++ {
		decides(t, c, pass(0), leaves(0, of(1, 4)))
		stands(t, c, 0, searched(api.Suspended, step, 2, of(1, 4)))
	}
	refuses(t, c, api.ErrRange, pass(0))
}

func TestLook(t *testing.T) {
	c := centreOf(t, hear(call(60, 0, 0)), begin(0, drifter()), hear(call(60, 5000, 0)), begin(1, drifter()))
	decides(t, c, look(0, vain(0)), leaves(0, of(1, 2)))
	decides(t, c, pass(0), leaves(0, of(1, 2)))
	decides(t, c, look(0, vain(1)), leaves(0, of(3, 8)))
	decides(t, c, look(0, vain(0)), leaves(0, of(3, 16))) // of what was before
	stands(t, c, 0, searched(api.Active, 1, 3, of(3, 16)))
	stands(t, c, 1, searched(api.Active, 0, 0, of(1, 1)))
	decides(t, c, look(0, changed(vain(1), func(n *api.Notice) { n.In, n.Out = of(1, 1), of(0, 1) })), leaves(0, of(1, 16)))
	decides(t, c, look(0, dull(0)), leaves(0, of(1, 16)))
	stands(t, c, 0, searched(api.Active, 1, 5, of(1, 16)))
}

// Look: notices that are not valid, or of a time that has not come yet.
func TestLookRefuses(t *testing.T) {
	noIncident(t, func(n int) api.Matter { return look(n, vain(0)) })
	noIncident(t, func(n int) api.Matter { return look(n, api.Notice{}) })
	noSearch(t, look(0, vain(0)))
	noSearch(t, look(0, vain(1)))
	c := centreOf(t, hear(call(60, 0, 0)), begin(0, drifter()))
	for steps := range 3 {
		for _, n := range wrongNotices() {
			refuses(t, c, api.ErrArg, look(0, n))
		}
		for time := steps + 1; time <= api.MaxTimes; time++ {
			refuses(t, c, api.ErrArg, look(0, vain(time)))
		}
		decides(t, c, pass(0), leaves(0, of(1, 1)))
	}
	decides(t, c, look(0, vain(3)), leaves(0, of(15, 16)))
}

// Look: the errors of Filter, which change nothing.
func TestLookByFilter(t *testing.T) {
	c := centreOf(t, hear(call(60, 0, 0)), begin(0, drifter()), pass(0), look(0, vain(0)))
	never := changed(vain(0), func(n *api.Notice) { n.In = of(0, 1) })
	refuses(t, c, api.ErrNone, look(0, never))
	stands(t, c, 0, searched(api.Active, 1, 1, of(1, 2)))
	decides(t, c, look(0, changed(never, func(n *api.Notice) { n.Time = 1 })), leaves(0, of(1, 4)))
	refuses(t, c, api.ErrNone, look(0, changed(never, func(n *api.Notice) { n.Time, n.In, n.Out = 1, of(1, 1), of(0, 1) })))
}

// Look: a notice with which the weights do not fit.
func TestLookFine(t *testing.T) {
	c := centreOf(t, hear(call(60, 0, 0)), begin(0, fine(36)))
	n := changed(vain(0), func(n *api.Notice) { n.In, n.Out = of(1, 999999937), of(1, 999999929) })
	var l []api.Notice
	for filterOf(fine(36), 0, append(l, n)...) == api.OK {
		l = append(l, n)
		if d, e := c.Do(look(0, n)); d.Error != accepted || e != api.OK {
			t.Fatalf("the notice %d: %v, error %d", len(l), d, e)
		}
	}
	refuses(t, c, api.ErrRange, look(0, n))
	if s, _ := c.Status(0); len(l) == api.MaxNotices || s.Notices != len(l) {
		t.Fatalf("it stands %v", s)
	}
	decides(t, c, look(0, dull(0)), leaves(0, leftOf(t, fine(36), 0, append(l, dull(0))...)))
}

// Look: at most MaxNotices notices; the error comes behind that of a wrong one, and ahead of that of Filter.
func TestLookLong(t *testing.T) {
	c := centreOf(t, hear(call(60, 0, 0)), begin(0, raft()), hear(call(60, 5000, 0)), begin(1, raft()))
	never := changed(vain(0), func(n *api.Notice) { n.In = of(0, 1) })
	for n := range api.MaxNotices {
		refuses(t, c, api.ErrNone, look(0, never))
		decides(t, c, look(0, dull(0)), leaves(0, of(1, 1)))
		stands(t, c, 0, searched(api.Active, 0, n+1, of(1, 1)))
	}
	refuses(t, c, api.ErrLong, look(0, dull(0)), look(0, never))
	refuses(t, c, api.ErrArg, look(0, vain(1)), look(0, api.Notice{}))
	decides(t, c, pass(0), leaves(0, of(1, 1)))
	refuses(t, c, api.ErrLong, look(0, vain(1)))
	decides(t, c, look(1, vain(0)), leaves(1, of(1, 2)))
}

// Look: as no notice can be more likely than 1, nothing that is noticed leaves more than before; so a suspended search stays suspended.
func TestLookSuspended(t *testing.T) {
	c := centreOf(t, hear(call(60, 0, 0)), begin(0, drifter()), look(0, vain(0)), look(0, vain(0)), suspend(0))
	decides(t, c, look(0, dull(0)), leaves(0, of(1, 4)))
	stands(t, c, 0, searched(api.Suspended, 0, 3, of(1, 4)))
	decides(t, c, look(0, vain(0)), leaves(0, of(1, 8)))
	stands(t, c, 0, searched(api.Suspended, 0, 4, of(1, 8)))
	refuses(t, c, api.ErrArg, look(0, vain(1)))
	refuses(t, c, api.ErrNone, look(0, changed(dull(0), func(n *api.Notice) { n.Of, n.In, n.Out = 1, of(0, 1), of(0, 1) })))
	stands(t, c, 0, searched(api.Suspended, 0, 4, of(1, 8)))
}

func TestSuspend(t *testing.T) {
	for _, x := range []struct {
		limit api.Part
		looks int
	}{
		{of(1, 1), 0}, {of(999, 1000), 1}, {of(1, 2), 1}, {of(1, 3), 2}, {of(1, 4), 2}, {of(24, 100), 3}, {of(1, 8), 3}, {of(1, 1025), 11},
	} {
		c := newCentre(t, changed(rules(), func(r *api.Rules) { r.Limit = x.limit }))
		decides(t, c, hear(call(60, 5000, 0)), gets(0, api.Nothing))
		decides(t, c, hear(call(60, 0, 0)), gets(1, api.Nothing))
		decides(t, c, begin(1, raft()), leaves(1, of(1, 1)))
		for n := range x.looks {
			decides(t, c, suspend(1), api.Decision{Error: api.ErrState, N: 1, Left: of(1, 1<<n)})
			decides(t, c, look(1, vain(0)), leaves(1, of(1, 2<<n)))
		}
		decides(t, c, suspend(1), leaves(1, of(1, 1<<x.looks)))
		stands(t, c, 1, searched(api.Suspended, 0, x.looks, of(1, 1<<x.looks)))
		refuses(t, c, api.ErrState, suspend(1), suspend(0))
		decides(t, c, hear(call(70, 1, 1)), gets(1, api.Alone))
		decides(t, c, suspend(1), leaves(1, of(1, 1<<x.looks)))
	}
}

// Suspend: with the Limit 0 no search is suspended, as something is always left.
func TestSuspendNever(t *testing.T) {
	c, e := centre.New(changed(rules(), func(r *api.Rules) { r.Limit = of(0, 1) }))
	if e != api.OK {
		t.Fatalf("New: error %d", e)
	}
	decides(t, c, hear(call(60, 0, 0)), gets(0, api.Nothing))
	decides(t, c, begin(0, raft()), leaves(0, of(1, 1)))
	for n := range 50 {
		decides(t, c, look(0, vain(0)), leaves(0, of(1, 2<<n)))
		decides(t, c, suspend(0), api.Decision{Error: api.ErrState, Left: of(1, 2<<n)})
	}
}

func TestSuspendRefuses(t *testing.T) {
	noIncident(t, suspend)
	noSearch(t, suspend(0))
}
