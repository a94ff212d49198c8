package drift_test

import (
	"math/rand"
	"slices"
	"testing"

	"cresset/api"
	"cresset/drift"
)

// P4.2: the chapter's examples, and what is near to them.
func TestStep(t *testing.T) {
	s := example()
	north := example()
	north.w.Winds = []api.Flow{flow(all(s.g), 0, 5000, 0, 5000)}
	jibes := example()
	jibes.d.Jibes = true
	for _, c := range []struct {
		what    string
		s       sea
		p, want api.Patch
	}{
		{"to the left", s, api.Patch{Left: cell(1, 1)}, api.Patch{Time: 1000, Left: []api.Run{{Y: 1, From: 2, To: 3}, {Y: 2, From: 2, To: 3}}}},
		{"on land", s, api.Patch{Right: cell(3, 1)}, api.Patch{Time: 1000, Beached: []api.Run{{Y: 0, From: 4, To: 5}, {Y: 1, From: 4, To: 5}}}},
		{"nothing", s, api.Patch{Time: 7}, api.Patch{Time: 1007}},
		{"off stays", s, api.Patch{Off: true}, api.Patch{Time: 1000, Off: true}},
		{"what is beached stays", s, api.Patch{Beached: cell(4, 0)}, api.Patch{Time: 1000, Beached: cell(4, 0)}},
		{"off at the top", s, api.Patch{Left: cell(0, 4)}, api.Patch{Time: 1000, Left: cell(1, 4), Off: true}},
		{"off at the bottom", s, api.Patch{Right: cell(0, 0)}, api.Patch{Time: 1000, Right: cell(1, 0), Off: true}},
		{"both", s, api.Patch{Left: cell(1, 1), Right: cell(0, 2)}, api.Patch{Time: 1000, Left: []api.Run{{Y: 1, From: 2, To: 3}, {Y: 2, From: 2, To: 3}}, Right: []api.Run{{Y: 1, From: 1, To: 2}, {Y: 2, From: 1, To: 2}}}},
		{"jibing", jibes, api.Patch{Left: cell(1, 1), Right: cell(0, 2)}, api.Patch{Time: 1000, Left: []api.Run{{Y: 1, From: 1, To: 3}, {Y: 2, From: 1, To: 3}}, Right: []api.Run{{Y: 1, From: 1, To: 3}, {Y: 2, From: 1, To: 3}}}},
		{"to the right, on land on the way", north, api.Patch{Right: cell(3, 1)}, api.Patch{Time: 1000, Right: cell(3, 2), Beached: []api.Run{{Y: 1, From: 4, To: 5}, {Y: 2, From: 4, To: 5}}}},
	} {
		if p, e := c.s.doStep(c.p); !equal(p, c.want) || e != api.OK {
			t.Errorf("%s: %+v, %v", c.what, p, e)
		}
	}
}

// P4.2: land that is only passed is where something can have beached, too.
func TestStepOverLand(t *testing.T) {
	g := api.Grid{W: 6, H: 3, Size: 100, Land: []api.Run{{Y: 1, From: 2, To: 3}}}
	s := sea{g: g, w: api.Flows{Currents: []api.Flow{flow(all(g), 300, 0, 300, 0)}, Winds: []api.Flow{flow(all(g), 0, 0, 0, 0)}}, seconds: 1000}
	want := api.Patch{Time: 1000, Left: cell(4, 1), Beached: cell(2, 1)}
	if p, e := s.doStep(api.Patch{Left: cell(1, 1)}); !equal(p, want) || e != api.OK {
		t.Errorf("%+v, %v", p, e)
	}
	s.w.Currents[0] = flow(all(g), -400, 100, -400, 100)
	want = api.Patch{Time: 1000, Left: cell(1, 2), Beached: cell(2, 1)}
	if p, e := s.doStep(api.Patch{Left: cell(5, 1)}); !equal(p, want) || e != api.OK {
		t.Errorf("%+v, %v", p, e)
	}
}

// P4.2: what leaves the grid altogether, at each of its sides.
func TestStepOff(t *testing.T) {
	g := api.Grid{W: 4, H: 3, Size: 100}
	calm := []api.Flow{flow(all(g), 0, 0, 0, 0)}
	for _, c := range []struct {
		x, y, u, v int
		want       []api.Run
		off        bool
	}{
		{0, 1, -100, 0, nil, true}, {3, 1, 100, 0, nil, true}, {1, 0, 0, -100, nil, true}, {1, 2, 0, 100, nil, true},
		{0, 1, -99, 0, cell(0, 1), true}, {3, 1, 99, 0, cell(3, 1), true}, {1, 0, 0, -99, cell(1, 0), true}, {1, 2, 0, 99, cell(1, 2), true},
		{1, 1, -100, 0, cell(0, 1), false}, {2, 1, 100, 0, cell(3, 1), false}, {1, 1, 0, -100, cell(1, 0), false}, {1, 1, 0, 100, cell(1, 2), false},
		{0, 0, -1000, -1000, nil, true}, {3, 2, 1000, 1000, nil, true}, {0, 2, -1000, 1000, nil, true}, {3, 0, 1000, -1000, nil, true},
	} {
		s := sea{g: g, w: api.Flows{Currents: []api.Flow{flow(all(g), c.u, c.v, c.u, c.v)}, Winds: calm}, seconds: 1000}
		if p, e := s.doStep(api.Patch{Left: cell(c.x, c.y)}); !equal(p, api.Patch{Time: 1000, Left: c.want, Off: c.off}) || e != api.OK {
			t.Errorf("(%d, %d) by (%d, %d): %+v, %v", c.x, c.y, c.u, c.v, p, e)
		}
		if p, e := s.doBefore(api.Patch{Time: 1000, Right: c.want}); !equal(p, api.Patch{Right: s.backTo(c.want)}) || e != api.OK {
			t.Errorf("before %v by (%d, %d): %+v, %v", c.want, c.u, c.v, p, e)
		}
	}
}

// backTo returns the cells that a step to the right leads to a region, cell by cell.
func (s sea) backTo(r []api.Run) []api.Run {
	p, _ := s.before(api.Patch{Time: s.seconds, Right: r})
	return p.Right
}

// P4.2
func TestStepErrors(t *testing.T) {
	s := example()
	if p, e := s.doStep(api.Patch{Time: api.MaxTime - 999}); !isNothing(p) || e != api.ErrRange {
		t.Errorf("too late: %v, %v", p, e)
	}
	if p, e := s.doStep(api.Patch{Time: api.MaxTime - 1000}); !equal(p, api.Patch{Time: api.MaxTime}) || e != api.OK {
		t.Errorf("last time: %v, %v", p, e)
	}
	part := example()
	part.w.Winds[0].Where = []api.Run{{Y: 1, From: 0, To: 2}}
	for _, p := range []api.Patch{{Left: cell(2, 1)}, {Right: cell(2, 1)}, {Left: []api.Run{{Y: 1, From: 1, To: 3}}}, {Left: cell(1, 1), Right: cell(1, 2)}} {
		if q, e := part.doStep(p); !isNothing(q) || e != api.ErrNone {
			t.Errorf("%v: %v, %v", p, q, e)
		}
		p.Time = api.MaxTime
		if q, e := part.doStep(p); !isNothing(q) || e != api.ErrRange {
			t.Errorf("%v: %v, %v", p, q, e)
		}
	}
	if _, e := part.doStep(api.Patch{Left: cell(1, 1), Right: []api.Run{{Y: 1, From: 0, To: 2}}, Beached: s.g.Land}); e != api.OK {
		t.Errorf("%v", e)
	}
}

// badCalls calls f with each value that is not valid.
func badCalls(f func(s sea, p api.Patch)) {
	for _, g := range wrongGrids {
		s := example()
		s.g = g
		f(s, api.Patch{})
	}
	for _, w := range wrongFlows() {
		s := example()
		s.w.Winds = append(s.w.Winds, w)
		f(s, api.Patch{})
	}
	for _, d := range wrongDrifters {
		s := example()
		s.d = d
		f(s, api.Patch{})
	}
	for _, n := range []int{0, -1, api.MaxStep + 1, most, least} {
		s := example()
		s.seconds = n
		f(s, api.Patch{})
	}
	for _, p := range wrongPatches() {
		f(example(), p)
	}
}

// P4.2, P4.3, P4.4
func TestBadCalls(t *testing.T) {
	badCalls(func(s sea, p api.Patch) {
		if q, e := s.doStep(p); !isNothing(q) || e != api.ErrArg {
			t.Errorf("Step: %v, %v", q, e)
		}
		if q, e := s.doBefore(p); !isNothing(q) || e != api.ErrArg {
			t.Errorf("Before: %v, %v", q, e)
		}
		if l, e := drift.Run(s.g, s.w, s.d, p, s.seconds, 0); l != nil || e != api.ErrArg {
			t.Errorf("Run: %v, %v", l, e)
		}
		if l, e := drift.Between(s.g, s.w, s.d, p, api.Patch{}, s.seconds); l != nil || e != api.ErrArg {
			t.Errorf("Between: %v, %v", l, e)
		}
		if l, e := drift.Between(s.g, s.w, s.d, api.Patch{Left: cell(0, 0)}, p, s.seconds); l != nil || e != api.ErrArg {
			t.Errorf("Between: %v, %v", l, e)
		}
	})
	s := example()
	s.seconds = api.MaxStep
	if _, e := s.doStep(api.Patch{}); e != api.OK {
		t.Errorf("the longest step: %v", e)
	}
}

// P4.2: cell by cell.
func TestStepByText(t *testing.T) {
	random := rand.New(rand.NewSource(2))
	seen := map[api.Errno]int{}
	for range 3000 {
		s := someSea(random)
		p := s.somePatch(random)
		want, wantE := s.step(p)
		got, e := s.doStep(p)
		if !equal(got, want) || e != wantE {
			t.Fatalf("%+v, %+v: %+v, %v, and not %+v, %v", s, p, got, e, want, wantE)
		}
		seen[e]++
	}
	if seen[api.OK] < 1000 || seen[api.ErrNone] < 100 {
		t.Errorf("too few kinds: %v", seen)
	}
}

// P4.2: a result that is too long, and cells that are too long on the way alone.
func TestStepOfLong(t *testing.T) {
	s := widest()
	p := api.Patch{Left: comb(64, 2, 0), Right: comb(64, 2, 1)}
	if q, e := s.doStep(p); !equal(q, api.Patch{Time: 1000, Left: p.Left, Right: p.Right}) || e != api.OK {
		t.Errorf("%d, %d, %v", len(q.Left), len(q.Right), e)
	}
	s.w.Currents = []api.Flow{flow(all(s.g), 0, 1, 0, 1)}
	for _, p := range []api.Patch{{Left: p.Left}, {Right: p.Right}} {
		if q, e := s.doStep(p); !isNothing(q) || e != api.ErrLong {
			t.Errorf("%d, %d, %v", len(q.Left), len(q.Right), e)
		}
	}
	for y := range 64 {
		s.g.Land = append(s.g.Land, api.Run{Y: 2*y + 1, To: api.MaxWide})
	}
	want := api.Patch{Time: 1000, Left: p.Left, Beached: []api.Run(nil)}
	for _, run := range p.Left {
		run.Y++
		want.Beached = append(want.Beached, run)
	}
	if q, e := s.doStep(api.Patch{Left: p.Left}); !equal(q, want) || e != api.OK {
		t.Errorf("%d, %d, %v", len(q.Left), len(q.Beached), e)
	}
	// What the right side brings to the same land makes one row more.
	if q, e := s.doStep(api.Patch{Left: p.Left, Right: cell(3, 128)}); q.Time != 1000 || e != api.OK {
		t.Errorf("%v", e)
	}
	s.g.Land = append(s.g.Land, api.Run{Y: 129, From: 3, To: 4})
	if q, e := s.doStep(api.Patch{Left: p.Left, Right: cell(3, 128)}); !isNothing(q) || e != api.ErrLong {
		t.Errorf("%d, %v", len(q.Beached), e)
	}
}

// P4.2: great grids and great pushes.
func TestStepOfWide(t *testing.T) {
	s := widest()
	s.d = api.Drifter{DownHigh: api.MaxLeeway, CrossHigh: api.MaxLeeway, Jibes: true}
	s.seconds = api.MaxStep
	s.w.Winds = []api.Flow{flow(all(s.g), -api.MaxRate, -api.MaxRate, api.MaxRate, api.MaxRate)}
	want := api.Patch{Time: api.MaxStep, Left: all(s.g), Right: all(s.g), Off: true}
	for _, p := range []api.Patch{{Left: all(s.g), Right: all(s.g)}, {Left: cell(255, 0)}, {Right: cell(0, 255)}} {
		if q, e := s.doStep(p); !equal(q, want) || e != api.OK {
			t.Errorf("%v, %v, %v", len(q.Left), len(q.Right), e)
		}
	}
	s.w.Currents = []api.Flow{flow(all(s.g), api.MaxRate, 0, api.MaxRate, 0)}
	s.w.Winds = []api.Flow{flow(all(s.g), 0, 0, 0, 0)}
	if q, e := s.doStep(api.Patch{Left: all(s.g), Right: all(s.g)}); !equal(q, api.Patch{Time: api.MaxStep, Off: true}) || e != api.OK {
		t.Errorf("all gone: %v, %v", q, e)
	}
}

// P4.2
func TestRun(t *testing.T) {
	random := rand.New(rand.NewSource(3))
	for range 500 {
		s := someSea(random)
		p := s.somePatch(random)
		steps := random.Intn(5)
		var want []api.Patch
		wantE := api.OK
		for last := p; len(want) < steps && wantE == api.OK; want = append(want, last) {
			last, wantE = s.doStep(last)
		}
		if wantE != api.OK {
			want = nil
		}
		l, e := drift.Run(s.g, s.w, s.d, p, s.seconds, steps)
		if !slices.EqualFunc(l, want, equal) || e != wantE {
			t.Fatalf("%+v, %+v: %+v, %v", s, p, l, e)
		}
	}
}

// P4.2
func TestRunErrors(t *testing.T) {
	s := example()
	run := func(p api.Patch, steps int) ([]api.Patch, api.Errno) {
		return drift.Run(s.g, s.w, s.d, p, s.seconds, steps)
	}
	for _, n := range []int{-1, api.MaxDrifts + 1, most, least} {
		if l, e := run(api.Patch{}, n); l != nil || e != api.ErrArg {
			t.Errorf("%d steps: %v, %v", n, l, e)
		}
	}
	if l, e := run(api.Patch{Time: api.MaxTime}, 0); len(l) != 0 || e != api.OK {
		t.Errorf("no steps: %v, %v", l, e)
	}
	if l, e := run(api.Patch{Left: cell(0, 0)}, api.MaxDrifts); len(l) != api.MaxDrifts || e != api.OK || l[api.MaxDrifts-1].Time != 1000*api.MaxDrifts {
		t.Errorf("all steps: %v, %v", len(l), e)
	}
	if l, e := run(api.Patch{Time: api.MaxTime - 2500}, 3); l != nil || e != api.ErrRange {
		t.Errorf("too late: %v, %v", l, e)
	}
	if l, e := run(api.Patch{Time: api.MaxTime - 2500}, 2); len(l) != 2 || e != api.OK {
		t.Errorf("not too late: %v, %v", l, e)
	}
	s.w.Currents[0].To = 1001
	if l, e := run(api.Patch{Left: cell(0, 2), Right: cell(0, 2)}, 2); len(l) != 2 || e != api.OK {
		t.Errorf("two known steps: %v, %v", l, e)
	}
	if l, e := run(api.Patch{Left: cell(0, 2), Right: cell(0, 2)}, 3); l != nil || e != api.ErrNone {
		t.Errorf("an unknown step: %v, %v", l, e)
	}
	if l, e := run(api.Patch{Beached: cell(4, 2)}, 3); len(l) != 3 || e != api.OK {
		t.Errorf("nothing afloat: %v, %v", l, e)
	}
}
