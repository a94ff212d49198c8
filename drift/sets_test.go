package drift_test

import (
	"math/rand"
	"slices"
	"testing"

	"cresset/api"
	"cresset/drift"
)

// mergedBy returns a patch of what merge makes of the regions of two.
func mergedBy(g api.Grid, a, b api.Patch, off bool, merge func(a, b set) set) api.Patch {
	return api.Patch{
		Time: a.Time, Left: merge(setOf(a.Left), setOf(b.Left)).runs(g), Right: merge(setOf(a.Right), setOf(b.Right)).runs(g),
		Beached: merge(setOf(a.Beached), setOf(b.Beached)).runs(g), Off: off,
	}
}

func either(a, b set) set {
	out := set{}
	out.add(a, b)
	return out
}

// P4.5
func TestSetsByText(t *testing.T) {
	random := rand.New(rand.NewSource(6))
	none := 0
	for range 2000 {
		s := someSea(random)
		g, a, b, r := s.g, s.somePatch(random), s.somePatch(random), someRegion(random, s.g)
		b.Time = a.Time
		where := either(either(setOf(a.Left), setOf(a.Right)), setOf(a.Beached)).runs(g)
		if got, e := drift.Where(g, a); !slices.Equal(got, where) || e != api.OK {
			t.Fatalf("Where of %v: %v, %v", a, got, e)
		}
		inside := api.Patch{Left: r, Right: r, Beached: r}
		if got, e := drift.Within(g, a, r); !equal(got, mergedBy(g, a, inside, a.Off, set.both)) || e != api.OK {
			t.Fatalf("Within of %v, %v: %v, %v", a, r, got, e)
		}
		if got, e := drift.Except(g, a, r); !equal(got, mergedBy(g, a, inside, a.Off, set.without)) || e != api.OK {
			t.Fatalf("Except of %v, %v: %v, %v", a, r, got, e)
		}
		if got, e := drift.Join(g, a, b); !equal(got, mergedBy(g, a, b, a.Off || b.Off, either)) || e != api.OK {
			t.Fatalf("Join of %v, %v: %v, %v", a, b, got, e)
		}
		want, wantE := mergedBy(g, a, b, a.Off && b.Off, set.both), api.OK
		if len(want.Left)+len(want.Right)+len(want.Beached) == 0 {
			want, wantE = api.Patch{}, api.ErrNone
			none++
		}
		if got, e := drift.Meet(g, a, b); !equal(got, want) || e != wantE {
			t.Fatalf("Meet of %v, %v: %v, %v", a, b, got, e)
		}
	}
	if none < 100 {
		t.Errorf("%d meet in nothing", none)
	}
}

// P4.5
func TestMeet(t *testing.T) {
	g := example().g
	one := api.Patch{Time: 5, Left: cell(1, 1), Off: true}
	for _, c := range []struct {
		what    string
		p, want api.Patch
		e       api.Errno
	}{
		{"left alone", api.Patch{Time: 5, Left: cell(1, 1), Right: cell(1, 1)}, api.Patch{Time: 5, Left: cell(1, 1)}, api.OK},
		{"the other side", api.Patch{Time: 5, Right: cell(1, 1), Off: true}, api.Patch{}, api.ErrNone},
		{"off alone", api.Patch{Time: 5, Off: true}, api.Patch{}, api.ErrNone},
		{"another time", api.Patch{Time: 6, Left: cell(1, 1)}, api.Patch{}, api.ErrArg},
		{"itself", one, one, api.OK},
	} {
		if p, e := drift.Meet(g, one, c.p); !equal(p, c.want) || e != c.e {
			t.Errorf("%s: %v, %v", c.what, p, e)
		}
		if p, e := drift.Meet(g, c.p, one); !equal(p, c.want) || e != c.e {
			t.Errorf("%s, the other way around: %v, %v", c.what, p, e)
		}
	}
	for _, p := range []api.Patch{{Right: cell(1, 1)}, {Beached: cell(4, 1)}} {
		if q, e := drift.Meet(g, p, p); !equal(q, p) || e != api.OK {
			t.Errorf("%v: %v, %v", p, q, e)
		}
	}
}

// P4.5
func TestBadSets(t *testing.T) {
	bad := func(g api.Grid, p api.Patch, r []api.Run) {
		t.Helper()
		if q, e := drift.Within(g, p, r); !isNothing(q) || e != api.ErrArg {
			t.Errorf("Within: %v, %v", q, e)
		}
		if q, e := drift.Except(g, p, r); !isNothing(q) || e != api.ErrArg {
			t.Errorf("Except: %v, %v", q, e)
		}
		if r != nil {
			return
		}
		if l, e := drift.Where(g, p); l != nil || e != api.ErrArg {
			t.Errorf("Where: %v, %v", l, e)
		}
		fit := api.Patch{Time: p.Time}
		for _, call := range []func(g api.Grid, a, b api.Patch) (api.Patch, api.Errno){drift.Join, drift.Meet} {
			if q, e := call(g, p, fit); !isNothing(q) || e != api.ErrArg {
				t.Errorf("of two: %v, %v", q, e)
			}
			if q, e := call(g, fit, p); !isNothing(q) || e != api.ErrArg {
				t.Errorf("of two: %v, %v", q, e)
			}
		}
	}
	for _, g := range wrongGrids {
		bad(g, api.Patch{}, nil)
	}
	for _, p := range wrongPatches() {
		bad(example().g, p, nil)
	}
	for _, r := range wrongRegions {
		bad(example().g, api.Patch{}, r)
	}
	if q, e := drift.Join(example().g, api.Patch{Time: 5, Left: cell(1, 1)}, api.Patch{Time: 6, Left: cell(1, 1)}); !isNothing(q) || e != api.ErrArg {
		t.Errorf("Join of two times: %v, %v", q, e)
	}
}

// gaps returns rows from which every step-th cell is missing.
func gaps(rows, step, first int) []api.Run {
	var l []api.Run
	for y := range rows {
		from := 0
		for x := first; x < api.MaxWide; x += step {
			l = append(l, api.Run{Y: y, From: from, To: x})
			from = x + 1
		}
		if from < api.MaxWide {
			l = append(l, api.Run{Y: y, From: from, To: api.MaxWide})
		}
	}
	return l
}

// P4.5: results that are too long, and cells that are too long without the third region alone.
func TestSetsOfLong(t *testing.T) {
	g := widest().g
	up := func(r []api.Run) []api.Run {
		r = slices.Clone(r)
		for i := range r {
			r[i].Y += 128
		}
		return r
	}
	one, other, whole := comb(64, 2, 0), up(comb(64, 2, 0)), all(g)
	is := func(what string, p api.Patch, e, want api.Errno) {
		t.Helper()
		if e != want || want != api.OK && !isNothing(p) {
			t.Errorf("%s: %v", what, e)
		}
	}
	for _, pair := range [][2]api.Patch{{{Left: one}, {Left: other}}, {{Right: one}, {Right: other}}} {
		p, e := drift.Join(g, pair[0], pair[1])
		is("Join", p, e, api.ErrLong)
	}
	p, e := drift.Join(g, api.Patch{Left: one, Right: other}, api.Patch{Right: other})
	is("Join of equal ones", p, e, api.OK)
	some, others := gaps(126, 4, 1), gaps(126, 4, 3)
	for _, q := range []api.Patch{{Left: some}, {Right: some}} {
		p, e := drift.Within(g, q, others)
		is("Within", p, e, api.ErrLong)
	}
	for _, q := range []api.Patch{{Left: whole}, {Right: whole}} {
		p, e := drift.Except(g, q, comb(64, 2, 0))
		is("Except", p, e, api.ErrLong)
	}
	p, e = drift.Meet(g, api.Patch{Left: some}, api.Patch{Left: others})
	is("Meet", p, e, api.ErrLong)
	if r, e := drift.Where(g, api.Patch{Left: one, Right: other}); r != nil || e != api.ErrLong {
		t.Errorf("Where: %d, %v", len(r), e)
	}
	if r, e := drift.Where(g, api.Patch{Left: one, Right: one}); !slices.Equal(r, one) || e != api.OK {
		t.Errorf("Where of equal ones: %d, %v", len(r), e)
	}
	g.Land = comb(64, 2, 1)
	if r, e := drift.Where(g, api.Patch{Left: one, Right: other[:8000], Beached: g.Land}); len(r) != 8064 || e != api.OK {
		t.Errorf("Where with land: %d, %v", len(r), e)
	}
}

// damage changes all that a patch shows.
func damage(p api.Patch) {
	for _, r := range [][]api.Run{p.Left, p.Right, p.Beached} {
		for i := range r {
			r[i] = api.Run{Y: -1, From: -1, To: -1}
		}
	}
}

// copied returns a patch with memory of its own.
func copied(p api.Patch) api.Patch {
	p.Left, p.Right, p.Beached = slices.Clone(p.Left), slices.Clone(p.Right), slices.Clone(p.Beached)
	return p
}

// P4.6: whatever becomes of a result, arguments and other parts of results stay as they are.
func TestMemory(t *testing.T) {
	random := rand.New(rand.NewSource(7))
	for range 300 {
		s := someSea(random)
		a, b, r := s.somePatch(random), s.somePatch(random), someRegion(random, s.g)
		b.Time = a.Time
		land, keptA, keptB, keptR := slices.Clone(s.g.Land), copied(a), copied(b), slices.Clone(r)
		var results []api.Patch
		keep := func(p api.Patch, e api.Errno) { results = append(results, p) }
		keep(s.doStep(a))
		keep(s.doBefore(a))
		keep(drift.Within(s.g, a, r))
		keep(drift.Except(s.g, a, r))
		keep(drift.Join(s.g, a, b))
		keep(drift.Meet(s.g, a, b))
		run, _ := drift.Run(s.g, s.w, s.d, a, s.seconds, 3)
		between, _ := drift.Between(s.g, s.w, s.d, a, b, s.seconds)
		if len(run) > 0 {
			b.Time = run[2].Time
			more, _ := drift.Between(s.g, s.w, s.d, a, b, s.seconds)
			results = append(results, more...)
			b.Time = a.Time
		}
		where, _ := drift.Where(s.g, a)
		results = append(append(append(results, run...), between...), api.Patch{Left: where})
		var kept []api.Patch
		for _, p := range results {
			kept = append(kept, copied(p))
		}
		for i, p := range results {
			if !equal(p, kept[i]) {
				t.Fatalf("%+v: the result %d shares memory with another one", s, i)
			}
			left := p
			left.Right, left.Beached = nil, nil
			damage(left)
			if !slices.Equal(p.Right, kept[i].Right) || !slices.Equal(p.Beached, kept[i].Beached) {
				t.Fatalf("%+v: regions of the result %d share memory", s, i)
			}
			damage(p)
		}
		if !equal(a, keptA) || !equal(b, keptB) || !slices.Equal(r, keptR) || !slices.Equal(s.g.Land, land) {
			t.Fatalf("%+v: arguments were changed", s)
		}
	}
}
