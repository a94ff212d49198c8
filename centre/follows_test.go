package centre_test

import (
	"math/rand"
	"slices"
	"testing"

	"cresset/api"
	"cresset/centre"
	"cresset/incident"
	"cresset/unit"
	"cresset/weight"
)

// past is a centre, and all that it tells.
type past struct {
	*centre.Centre
	rules api.Rules
	view
}

// somePast is the past of a centre, to which many matters have come.
func somePast(t *testing.T, random *rand.Rand) past {
	t.Helper()
	r := someRules(random)
	c := newCentre(t, r)
	for range 80 {
		if _, e := c.Do(someMatter(random)); e != api.OK {
			t.Fatalf("Do: error %d", e)
		}
	}
	return past{c, r, viewOf(t, c)}
}

// accepts yields the number of each matter of a kind that was accepted, and its decision.
func (p past) accepts(kind int) func(func(int, api.Decision) bool) {
	return func(yield func(int, api.Decision) bool) {
		for n, d := range p.decisions {
			if p.matters[n].Kind == kind && d.Error == accepted && !yield(n, d) {
				return
			}
		}
	}
}

// P14.6: of all matters, and of the first ones.
func TestReplays(t *testing.T) {
	random := rand.New(rand.NewSource(146))
	for range 40 {
		p := somePast(t, random)
		for n := range p.Count() + 1 {
			c, e := centre.Replay(p.rules, p.matters[:n])
			if e != api.OK {
				t.Fatalf("Replay: error %d", e)
			}
			got := viewOf(t, c)
			if !slices.Equal(got.decisions, p.decisions[:n]) || !slices.Equal(got.lines, p.lines[:n]) || !slices.Equal(got.statuses, p.then[n]) {
				t.Fatalf("the first %d matters are replayed as\n%v; they were\n%v", n, got, p.view)
			}
			if n == p.Count() {
				isView(t, c, p.view)
			}
		}
	}
}

// P14.7
func TestSuspended(t *testing.T) {
	random := rand.New(rand.NewSource(147))
	found, with := 0, 0
	for range 300 {
		p := somePast(t, random)
		for n, statuses := range p.then {
			for i, s := range statuses {
				if s.Search != api.Suspended {
					continue
				}
				if weight.Compare(s.Left, p.rules.Limit) > 0 || !s.Open {
					t.Fatalf("it stands %v; the limit is %v", s, p.rules.Limit)
				}
				p.isLeft(t, n, i)
				found++
				with += s.Notices
				last := p.matters[n-1]
				if p.then[n-1][i].Search != api.Suspended && (last.Kind != api.Suspend || p.decisions[n-1] != leaves(i, s.Left)) {
					t.Fatalf("it stands %v by %v: %v", s, last, p.decisions[n-1])
				}
			}
		}
	}
	if found < 1000 || with < 1000 {
		t.Errorf("%d were suspended, with %d notices", found, with)
	}
}

// isLeft checks that what was left of a search after the first n matters is what Filter returns for what the log has of it.
func (p past) isLeft(t *testing.T, n, incident int) {
	t.Helper()
	s := p.then[n][incident]
	var b api.Belief
	var notices []api.Notice
	steps := 0
	for k, m := range p.matters[:n] {
		if p.decisions[k].Error != accepted || m.N != incident {
			continue
		}
		switch m.Kind {
		case api.Begin:
			b, notices, steps = m.Belief, nil, 0
		case api.Pass:
			steps++
		case api.Look:
			notices = append(notices, m.Notice)
		}
	}
	want := of(1, 1)
	if steps > 0 || len(notices) > 0 {
		want = leftOf(t, b, steps, notices...)
	}
	if s.Left != want || s.Steps != steps || s.Notices != len(notices) {
		t.Fatalf("it stands %v, and not with %d steps, %d notices, and %v left", s, steps, len(notices), want)
	}
}

// P14.8
func TestNoSilence(t *testing.T) {
	random := rand.New(rand.NewSource(148))
	closed, reopened := 0, 0
	for range 300 {
		p := somePast(t, random)
		book, _ := incident.New(p.rules.Window, p.rules.Drift)
		for n, m := range p.matters {
			switch m.Kind {
			case api.Hear:
				book.Take(m.Report)
			case api.Prove:
				book.Prove(m.Proof)
			case api.Close:
				book.Close(m.N)
			}
			for i, before := range p.then[n] {
				after := p.then[n+1][i]
				if !before.Open && after.Open {
					reopened++
				}
				if !before.Open || after.Open {
					continue
				}
				closed++
				missing, e := book.Missing(i)
				if m.Kind != api.Close || p.decisions[n] != gets(i, -1) || len(missing) != 0 || e != api.OK || after != (api.Status{}) {
					t.Fatalf("the incident %d is closed by %v: %v, missing %v, error %d", i, m, p.decisions[n], missing, e)
				}
			}
		}
	}
	if closed < 100 || reopened < 20 {
		t.Errorf("%d were closed, %d were opened again", closed, reopened)
	}
}

// sent is the plan of a unit that was sent.
type sent struct {
	unit  api.Unit
	legs  []api.Leg
	boxes []api.Box
}

// P14.9
func TestNobodyTwice(t *testing.T) {
	random := rand.New(rand.NewSource(149))
	pairs := 0
	for range 200 {
		p := somePast(t, random)
		var plans []sent
		for n, d := range p.accepts(api.Send) {
			m := p.matters[n]
			legs, _, _, e := unit.Plan(m.Unit, m.Start, m.Route, m.Sky)
			boxes, f := unit.Boxes(m.Unit, legs, p.rules.Pieces)
			if d.N != len(plans) || e != api.OK || f != api.OK {
				t.Fatalf("the plan %d is sent: %v; Plan: error %d, Boxes: error %d", len(plans), d, e, f)
			}
			plans = append(plans, sent{m.Unit, legs, boxes})
			comesHome(t, plans[d.N])
		}
		l := p.Taken()
		for i, a := range l {
			for _, b := range l[:i] {
				areApart(t, plans[a], plans[b])
				pairs++
			}
		}
	}
	if pairs < 1000 {
		t.Errorf("there were %d pairs of plans", pairs)
	}
}

// comesHome checks that a unit can come home from each end of a leg.
func comesHome(t *testing.T, s sent) {
	t.Helper()
	for _, leg := range s.legs {
		left, e := unit.Left(s.unit, s.legs, leg.Leave)
		metres, f := unit.Distance(leg.To, s.unit.Base)
		if e != api.OK || f != api.OK {
			t.Fatalf("Left: error %d; Distance: error %d", e, f)
		}
		seconds := (3600*metres + s.unit.Speed - 1) / s.unit.Speed
		burnt := (s.unit.Burn*seconds + 3599) / 3600
		if left-burnt < s.unit.Reserve || leg.Leave+seconds-s.legs[0].Start > s.unit.Hours {
			t.Fatalf("%v cannot come home from %v", s.unit, leg)
		}
	}
	if last := s.legs[len(s.legs)-1]; last.To != s.unit.Base {
		t.Fatalf("%v ends with %v", s.unit, last)
	}
}

// areApart checks that two units that are under way are never in one place, as far as their boxes go, and in their exact places.
func areApart(t *testing.T, a, b sent) {
	t.Helper()
	if i, k := unit.Clash(a.boxes, b.boxes); i != -1 || k != -1 {
		t.Fatalf("the boxes %v and %v clash", a.boxes[i], b.boxes[k])
	}
	if a.unit.Level != b.unit.Level {
		return
	}
	margins := a.unit.Margin + b.unit.Margin
	for time := a.legs[0].Start; time <= a.legs[len(a.legs)-1].Leave; time += 7 {
		low, high, _ := unit.Where(a.legs, time)
		otherLow, otherHigh, e := unit.Where(b.legs, time)
		if e != api.OK {
			continue
		}
		x, y := max(low.X-otherHigh.X, otherLow.X-high.X), max(low.Y-otherHigh.Y, otherLow.Y-high.Y)
		if x < margins && y < margins { // the places are rounded
			t.Fatalf("at %d the units are at %v and %v", time, low, otherLow)
		}
	}
}

// P14.10
func TestNewFacts(t *testing.T) {
	random := rand.New(rand.NewSource(150))
	reports, notices := 0, 0
	for range 700 {
		p := somePast(t, random)
		for n, d := range p.accepts(api.Hear) {
			if d.N == len(p.then[n]) || p.then[n][d.N].Search != api.Suspended {
				continue
			}
			want := changed(p.then[n][d.N], func(s *api.Status) { s.Search = api.Active })
			if s := p.then[n+1][d.N]; s != want {
				t.Fatalf("it stood %v, and stands %v behind a report", want, s)
			}
			reports++
		}
		for n, d := range p.accepts(api.Look) {
			before, after := p.then[n][d.N], p.then[n+1][d.N]
			isMore := weight.Compare(after.Left, p.rules.Limit) > 0
			if goesOn := before.Search == api.Active || isMore; goesOn != (after.Search == api.Active) || d.Left != after.Left {
				t.Fatalf("it stood %v, and stands %v behind a notice: %v", before, after, d)
			}
			if before.Search == api.Suspended {
				notices++
			}
		}
	}
	if reports < 50 || notices < 50 {
		t.Errorf("%d reports and %d notices came to suspended incidents", reports, notices)
	}
}

// P1: nothing panics, and all ends, whatever the arguments are.
func TestAnyArguments(t *testing.T) {
	random := rand.New(rand.NewSource(140))
	n := func() int {
		return oneOf(random, small, small+1, -1, 0, 1, 2, 3, 9, 10, 32, 50, 500, api.MaxTime, api.MaxPlace, big-1, big)
	}
	part := func() api.Part {
		return oneOf(random, api.Part{}, of(0, 1), of(1, 2), of(1, 1), of(7, 1), api.Part{Num: "x", Den: "\xff"}, api.Part{Num: "1", Den: "0"})
	}
	runs := func() []api.Run { return make([]api.Run, random.Intn(3)) }
	c := centreOf(t, hear(call(60, 0, 0)), begin(0, drifter()), send(heron(), 100))
	for range 20000 {
		m := someMatter(random)
		m.Kind, m.N, m.Start = oneOf(random, m.Kind, 1+random.Intn(9), n()), oneOf(random, m.N, n()), oneOf(random, m.Start, n())
		if random.Intn(2) == 0 {
			m.Report = api.Report{Kind: n(), Time: n(), Source: longName, About: "\x00", Where: make([]api.Spot, random.Intn(3)), Souls: n(), Trust: n()}
			m.Proof = api.Proof{Kind: n(), Report: n(), Time: n(), By: longName, Where: make([]api.Spot, random.Intn(3)), Count: n()}
			m.Belief = api.Belief{Sea: api.Grid{W: n(), H: n(), Size: n(), Land: runs()}, Scenes: make([]api.Scene, random.Intn(3))}
			m.Notice = api.Notice{Time: n(), Of: n(), Where: runs(), In: part(), Out: part()}
			m.Unit = api.Unit{Name: "a", Speed: n(), Fuel: n(), Burn: n(), Reserve: n(), Hours: n(), Base: spot(n(), n()), Margin: n(), Level: n()}
			m.Route, m.Sky = make([]api.Way, random.Intn(40)), make([]api.Front, random.Intn(3))
		}
		before := c.Count()
		if d, e := c.Do(m); e != api.OK && (d != (api.Decision{}) || before != api.MaxMatters) || c.Count() != before+1 && e == api.OK {
			t.Fatalf("Do of %v: %v, error %d", m, d, e)
		}
		for _, e := range []api.Errno{second(c.Status(n())), second(c.Then(n(), n())), second(c.Line(n()))} {
			if e != api.OK && e != api.ErrNone {
				t.Fatalf("the error is %d", e)
			}
		}
		if _, _, e := c.Log(n()); e != api.OK && e != api.ErrNone {
			t.Fatalf("Log: error %d", e)
		}
		r := api.Rules{Window: n(), Drift: n(), Limit: part(), Pieces: n()}
		if d, e := centre.Replay(r, []api.Matter{m}); (d != nil) != (e == api.OK) || (e == api.OK) != centre.CheckRules(r) {
			t.Fatalf("Replay with %v: %v, error %d", r, d, e)
		}
		if before == api.MaxMatters {
			c = newCentre(t, rules())
		}
	}
}

// second returns an error, without what is beside it.
func second[T any](_ T, e api.Errno) api.Errno {
	return e
}
