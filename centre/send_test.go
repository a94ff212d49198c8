package centre_test

import (
	"slices"
	"testing"

	"cresset/api"
	"cresset/centre"
)

// takes checks which plans are taken.
func takes(t *testing.T, c *centre.Centre, want ...int) {
	t.Helper()
	if l := c.Taken(); !slices.Equal(l, want) {
		t.Fatalf("%v are taken, not %v", l, want)
	}
}

// whyNot returns the decision that a unit cannot go on.
func whyNot(why int) api.Decision {
	return api.Decision{Error: api.ErrState, Why: why}
}

// clashes returns the decision that the space of a unit is taken.
func clashes(plan int) api.Decision {
	return api.Decision{Error: api.ErrThere, Why: plan}
}

// Send and Recall.
func TestSend(t *testing.T) {
	c := newCentre(t, rules())
	takes(t, c)
	refuses(t, c, api.ErrNone, recall(0))
	decides(t, c, send(heron(), 100, way(300, 0, 10), way(300, 100, 0)), gets(0, 0)) // home at 827
	takes(t, c, 0)
	decides(t, c, send(heron(), 100, way(300, 0, 10), way(300, 100, 0)), clashes(0))
	decides(t, c, send(heron(), 827, way(100, 0, 10)), clashes(0))
	decides(t, c, send(heron(), 828, way(100, 0, 10)), gets(1, 0))
	decides(t, c, send(heronAt(7), 100, way(300, 0, 10)), gets(2, 0))
	takes(t, c, 0, 1, 2)
	decides(t, c, recall(1), gets(1, 0))
	takes(t, c, 0, 2)
	refuses(t, c, api.ErrNone, recall(1))
	decides(t, c, send(heron(), 828, way(100, 0, 10)), gets(3, 0))
	takes(t, c, 0, 2, 3)
	for _, n := range outside(0, 3) {
		refuses(t, c, api.ErrNone, recall(n))
	}
	for _, n := range []int{3, 0, 2} {
		decides(t, c, recall(n), gets(n, 0))
	}
	takes(t, c)
	refuses(t, c, api.ErrNone, recall(0), recall(1), recall(2), recall(3))
	decides(t, c, send(heron(), 100, way(300, 0, 10), way(300, 100, 0)), gets(4, 0))
}

// Send: the errors of the plan, and its reasons, with a matter's Unit, Start, Route and Sky.
func TestSendByPlan(t *testing.T) {
	c := newCentre(t, rules())
	route := []api.Way{way(300, 0, 10), way(300, 100, 0)}
	storm := api.Front{From: 420, To: 430, Low: spot(290, 50), High: spot(310, 60), Sea: 6}
	in := func(m api.Matter, sky ...api.Front) api.Matter {
		m.Sky = sky
		return m
	}
	hours := func(n int) api.Unit { return changed(heron(), func(u *api.Unit) { u.Hours = n }) }
	decides(t, c, send(heron(), 100, way(300, 0, 184), route[1]), whyNot(api.NoFuel))
	decides(t, c, send(hours(726), 100, route...), whyNot(api.NoHours))
	decides(t, c, in(send(heron(), 100, route...), storm), whyNot(api.NoWeather))
	decides(t, c, send(heron(), api.MaxTime-726, route...), whyNot(api.NoTime))
	refuses(t, c, api.ErrArg,
		send(api.Unit{}, 100), send(heron(), -1), send(heron(), api.MaxTime+1), send(heron(), 100, way(api.MaxPlace+1, 0, 0)),
		send(heron(), 100, way(0, 0, -1)), in(send(heron(), 100), api.Front{From: 1}), api.Matter{Kind: api.Send})
	refuses(t, c, api.ErrLong, send(heron(), 100, make([]api.Way, api.MaxRoute+1)...))
	takes(t, c)
	decides(t, c, send(hours(727), 100, way(300, 0, 10), route[1]), gets(0, 0))
	decides(t, c, in(send(heron(), 828, route...), storm), gets(1, 0))
	decides(t, c, send(heron(), 2000, way(300, 0, 183), route[1]), gets(2, 0))
	decides(t, c, send(heron(), api.MaxTime-727, route...), gets(3, 0))
	decides(t, c, send(heron(), 5000, make([]api.Way, api.MaxRoute)...), gets(4, 0))
}

// Send: a unit that goes nowhere takes the space of its base, with its margin.
func TestSendNowhere(t *testing.T) {
	base := func(x, margin int) api.Unit {
		return changed(heron(), func(u *api.Unit) { u.Base.X, u.Margin = x, margin })
	}
	c := newCentre(t, rules())
	decides(t, c, send(base(0, 5), 100), gets(0, 0))
	decides(t, c, send(base(10, 5), 100), clashes(0))
	decides(t, c, send(base(11, 5), 100), gets(1, 0))
	decides(t, c, send(base(0, 5), 99), gets(2, 0))
	decides(t, c, send(base(0, 0), 50, way(0, 0, 50)), clashes(0))
	decides(t, c, send(base(0, 0), 50, way(0, 0, 48)), gets(3, 0))
	takes(t, c, 0, 1, 2, 3)
}

// Send: Why is the first plan with which there is a clash, of those that are taken.
func TestSendFirstClash(t *testing.T) {
	c := newCentre(t, rules())
	for n := range 4 {
		decides(t, c, send(changed(heron(), func(u *api.Unit) { u.Base.X = 100 * n }), 100), gets(n, 0))
	}
	wide := func(margin int) api.Matter {
		return send(changed(heron(), func(u *api.Unit) { u.Margin = margin }), 100)
	}
	along := send(changed(heron(), func(u *api.Unit) { u.Base.X = 350 }), 0, way(150, 0, 0))
	decides(t, c, along, clashes(2)) // it is at 250 at 100, and in the piece from 250 to 150 then, too
	decides(t, c, wide(300), clashes(0))
	decides(t, c, recall(0), gets(0, 0))
	decides(t, c, wide(300), clashes(1))
	decides(t, c, recall(2), gets(2, 0))
	decides(t, c, wide(300), clashes(1))
	decides(t, c, recall(1), gets(1, 0))
	decides(t, c, wide(300), clashes(3))
	decides(t, c, wide(299), gets(4, 0))
	decides(t, c, wide(300), clashes(3))
	takes(t, c, 3, 4)
}

// Send: the space of a leg is taken in as many pieces as the rules say.
func TestSendPieces(t *testing.T) {
	across := changed(heron(), func(u *api.Unit) { u.Speed, u.Burn = 7200, 1800 })
	aside := changed(heron(), func(u *api.Unit) { u.Base = spot(290, 10) })
	for pieces, want := range map[int]api.Decision{1: clashes(0), 2: gets(1, 0), 3: gets(1, 0), 20: gets(1, 0)} {
		c := newCentre(t, changed(rules(), func(r *api.Rules) { r.Pieces = pieces }))
		decides(t, c, send(across, 100, way(300, 300, 0)), gets(0, 0))
		decides(t, c, send(aside, 100, way(290, 10, 30)), want)
	}
}

// Send: plans that are free count, too; the error comes behind those of the plan, and ahead of a clash.
func TestSendFull(t *testing.T) {
	c := newCentre(t, rules())
	for n := range api.MaxPlans {
		decides(t, c, send(heronAt(n), 100), gets(n, 0))
		if n%3 == 0 {
			decides(t, c, recall(n), gets(n, 0))
		}
	}
	refuses(t, c, api.ErrFull, send(heronAt(0), 100), send(heronAt(1), 100), send(heronAt(60), 100))
	refuses(t, c, api.ErrArg, send(heronAt(101), 100))
	decides(t, c, send(heronAt(1), 100, way(1000, 0, 0)), whyNot(api.NoFuel))
	decides(t, c, recall(1), gets(1, 0))
	refuses(t, c, api.ErrNone, recall(0), recall(1), recall(api.MaxPlans))
	refuses(t, c, api.ErrFull, send(heronAt(1), 100))
	if l := c.Taken(); len(l) != 32 || l[0] != 2 || l[31] != 49 {
		t.Errorf("%v are taken", l)
	}
}
