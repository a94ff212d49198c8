package drift_test

import (
	"math/rand"
	"slices"
	"testing"

	"cresset/api"
	"cresset/drift"
)

// P4.3: the chapter's example, and what is near to it.
func TestBefore(t *testing.T) {
	s := example()
	jibes := example()
	jibes.d.Jibes = true
	for _, c := range []struct {
		what    string
		s       sea
		p, want api.Patch
	}{
		{"to the left", s, api.Patch{Time: 1000, Left: cell(2, 2)}, api.Patch{Left: []api.Run{{Y: 1, From: 1, To: 2}, {Y: 2, From: 1, To: 2}}}},
		{"to the right", s, api.Patch{Time: 1007, Right: cell(2, 2)}, api.Patch{Time: 7, Right: []api.Run{{Y: 2, From: 1, To: 2}, {Y: 3, From: 1, To: 2}}}},
		{"jibing", jibes, api.Patch{Time: 1000, Right: cell(2, 2)}, api.Patch{Left: []api.Run{{Y: 1, From: 1, To: 2}, {Y: 2, From: 1, To: 2}}, Right: []api.Run{{Y: 2, From: 1, To: 2}, {Y: 3, From: 1, To: 2}}}},
		{"on land", s, api.Patch{Time: 1000, Beached: cell(4, 0)}, api.Patch{Left: cell(3, 0), Right: []api.Run{{Y: 0, From: 3, To: 4}, {Y: 1, From: 3, To: 4}}, Beached: cell(4, 0)}},
		{"off or not", s, api.Patch{Time: 1000, Off: true}, api.Patch{}},
		{"from nowhere", s, api.Patch{Time: 1000, Left: cell(0, 0), Right: cell(0, 4)}, api.Patch{}},
	} {
		if p, e := c.s.doBefore(c.p); !equal(p, c.want) || e != api.OK {
			t.Errorf("%s: %+v, %v", c.what, p, e)
		}
	}
}

// P4.3
func TestBeforeErrors(t *testing.T) {
	s := example()
	if p, e := s.doBefore(api.Patch{Time: 999, Left: cell(2, 2)}); !isNothing(p) || e != api.ErrRange {
		t.Errorf("too early: %v, %v", p, e)
	}
	if p, e := s.doBefore(api.Patch{Time: api.MaxTime}); !equal(p, api.Patch{Time: api.MaxTime - 1000}) || e != api.OK {
		t.Errorf("last time: %v, %v", p, e)
	}
	// The land need not be known, all else must be, at the earlier time alone.
	s.w.Winds[0].Where = []api.Run{{Y: 0, From: 0, To: 4}, {Y: 1, From: 0, To: 4}, {Y: 2, From: 0, To: 4}, {Y: 3, From: 0, To: 4}, {Y: 4, From: 0, To: 4}}
	s.w.Winds[0].To = 1
	if p, e := s.doBefore(api.Patch{Time: 1000}); !equal(p, api.Patch{}) || e != api.OK {
		t.Errorf("known: %v, %v", p, e)
	}
	if p, e := s.doBefore(api.Patch{Time: 1001}); !isNothing(p) || e != api.ErrNone {
		t.Errorf("known before alone: %v, %v", p, e)
	}
	s.w.Winds[0].Where[4].To = 3
	if p, e := s.doBefore(api.Patch{Time: 1000}); !isNothing(p) || e != api.ErrNone {
		t.Errorf("a cell that is not known: %v, %v", p, e)
	}
	if p, e := s.doBefore(api.Patch{Time: 999}); !isNothing(p) || e != api.ErrRange {
		t.Errorf("too early, and not known: %v, %v", p, e)
	}
}

// P4.3: cell by cell.
func TestBeforeByText(t *testing.T) {
	random := rand.New(rand.NewSource(4))
	seen := map[api.Errno]int{}
	for range 1500 {
		s := someSea(random)
		p := s.somePatch(random)
		want, wantE := s.before(p)
		got, e := s.doBefore(p)
		if !equal(got, want) || e != wantE {
			t.Fatalf("%+v, %+v: %+v, %v, and not %+v, %v", s, p, got, e, want, wantE)
		}
		seen[e]++
	}
	if seen[api.OK] < 500 || seen[api.ErrNone] < 50 || seen[api.ErrRange] < 50 {
		t.Errorf("too few kinds: %v", seen)
	}
}

// P4.3
func TestBeforeOfLong(t *testing.T) {
	s := widest()
	p := api.Patch{Time: 1000, Left: comb(64, 2, 0), Right: comb(64, 2, 1)}
	if q, e := s.doBefore(p); !equal(q, api.Patch{Left: p.Left, Right: p.Right}) || e != api.OK {
		t.Errorf("%d, %d, %v", len(q.Left), len(q.Right), e)
	}
	s.w.Currents = []api.Flow{flow(all(s.g), 0, 1, 0, 1)}
	for _, p := range []api.Patch{{Time: 1000, Left: p.Left}, {Time: 1000, Right: p.Right}} {
		if q, e := s.doBefore(p); !isNothing(q) || e != api.ErrLong {
			t.Errorf("%d, %d, %v", len(q.Left), len(q.Right), e)
		}
	}
	// The sea has more runs than a region can have, what is found has not.
	s.g.Land = comb(64, 2, 1)
	if q, e := s.doBefore(api.Patch{Time: 1000, Left: cell(0, 0)}); !equal(q, api.Patch{Left: cell(0, 0)}) || e != api.OK {
		t.Errorf("%v, %v", q, e)
	}
}

// between is Between by the text of the chapter.
func (s sea) between(from, to api.Patch) ([]api.Patch, api.Errno) {
	n := 0
	for ; from.Time+n*s.seconds < to.Time; n++ {
	}
	if from.Time+n*s.seconds != to.Time || n > api.MaxDrifts {
		return nil, api.ErrRange
	}
	l := []api.Patch{from}
	for i := range n {
		p, e := s.step(l[i])
		if e != api.OK {
			return nil, e
		}
		l = append(l, p)
	}
	var e api.Errno
	if l[n], e = drift.Meet(s.g, l[n], to); e != api.OK {
		return nil, e
	}
	for i := n - 1; i >= 0; i-- {
		p, e := s.before(l[i+1])
		if e != api.OK {
			return nil, e
		}
		if l[i], e = drift.Meet(s.g, l[i], p); e != api.OK {
			return nil, e
		}
	}
	return l, api.OK
}

// P4.4
func TestBetweenByText(t *testing.T) {
	random := rand.New(rand.NewSource(5))
	seen := map[api.Errno]int{}
	for range 1500 {
		s := someSea(random)
		from, to := s.somePatch(random), s.somePatch(random)
		if random.Intn(10) > 0 {
			to.Time = from.Time + random.Intn(5)*s.seconds
		}
		want, wantE := s.between(from, to)
		got, e := drift.Between(s.g, s.w, s.d, from, to, s.seconds)
		if !slices.EqualFunc(got, want, equal) || e != wantE {
			t.Fatalf("%+v, %+v, %+v: %+v, %v, and not %+v, %v", s, from, to, got, e, want, wantE)
		}
		seen[e]++
	}
	if seen[api.OK] < 400 || seen[api.ErrNone] < 100 || seen[api.ErrRange] < 50 {
		t.Errorf("too few kinds: %v", seen)
	}
}

// P4.4
func TestBetweenTimes(t *testing.T) {
	s := widest()
	s.g = api.Grid{W: 2, H: 2, Size: 100}
	s.w.Currents = []api.Flow{flow(all(s.g), 0, 0, 0, 0)}
	s.w.Winds = s.w.Currents
	one := func(time int) api.Patch { return api.Patch{Time: time, Left: cell(1, 1), Off: true} }
	for _, c := range []struct {
		from, to, n int
		e           api.Errno
	}{
		{5, 5, 1, api.OK}, {5, 1005, 2, api.OK}, {0, 1000 * api.MaxDrifts, api.MaxDrifts + 1, api.OK}, {0, 1000 * (api.MaxDrifts + 1), 0, api.ErrRange},
		{5, 1004, 0, api.ErrRange}, {5, 1006, 0, api.ErrRange}, {1005, 5, 0, api.ErrRange}, {6, 5, 0, api.ErrRange}, {0, api.MaxTime, 0, api.ErrRange}, {api.MaxTime, api.MaxTime, 1, api.OK},
	} {
		l, e := drift.Between(s.g, s.w, s.d, one(c.from), one(c.to), 1000)
		if len(l) != c.n || e != c.e {
			t.Errorf("%d, %d: %v, %v", c.from, c.to, len(l), e)
		}
		for i, p := range l {
			if want := one(c.from + 1000*i); !equal(p, api.Patch{Time: want.Time, Left: want.Left, Off: i == c.n-1}) {
				t.Errorf("%d, %d: %v", c.from, c.to, p)
			}
		}
	}
	if l, e := drift.Between(s.g, s.w, s.d, one(0), api.Patch{Time: 1000, Left: cell(0, 0)}, 1000); l != nil || e != api.ErrNone {
		t.Errorf("nothing in both: %v, %v", l, e)
	}
	if l, e := drift.Between(s.g, s.w, s.d, api.Patch{}, api.Patch{}, 1000); l != nil || e != api.ErrNone {
		t.Errorf("nothing at all: %v, %v", l, e)
	}
	// Step needs the weather of the patch's cells, Before that of all of the sea.
	s.w.Currents = []api.Flow{flow(cell(1, 1), 0, 0, 0, 0)}
	if l, e := drift.Between(s.g, s.w, s.d, one(0), one(1000), 1000); l != nil || e != api.ErrNone {
		t.Errorf("not all known: %v, %v", l, e)
	}
}
