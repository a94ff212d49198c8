package drift

import (
	"iter"

	"cresset/api"
)

// sea is what a step depends on beside its patch; all of it is valid.
type sea struct {
	grid    api.Grid
	flows   api.Flows
	drifter api.Drifter
	seconds int
	land    counts
}

// Step returns the patch after a step.
func Step(g api.Grid, w api.Flows, d api.Drifter, p api.Patch, seconds int) (api.Patch, api.Errno) {
	s, e := newSea(g, w, d, seconds, p)
	if e != api.OK {
		return api.Patch{}, e
	}
	return s.step(p)
}

// Run returns the patches after each step.
func Run(g api.Grid, w api.Flows, d api.Drifter, p api.Patch, seconds, steps int) ([]api.Patch, api.Errno) {
	s, e := newSea(g, w, d, seconds, p)
	if e != api.OK || steps < 0 || steps > api.MaxDrifts {
		return nil, api.ErrArg
	}
	var l []api.Patch
	for next, e := range s.steps(p, steps) {
		if e != api.OK {
			return nil, e
		}
		l = append(l, next)
	}
	return l, api.OK
}

// newSea returns ErrArg unless all is valid that is given.
func newSea(g api.Grid, w api.Flows, d api.Drifter, seconds int, patches ...api.Patch) (*sea, api.Errno) {
	if !isSetting(g, w, d, seconds) {
		return nil, api.ErrArg
	}
	for _, p := range patches {
		if CheckPatch(g, p) != api.OK {
			return nil, api.ErrArg
		}
	}
	return &sea{grid: g, flows: w, drifter: d, seconds: seconds, land: covered(g, g.Land)}, api.OK
}

// steps yields the patches after each of some steps, up to the first error.
func (s *sea) steps(p api.Patch, steps int) iter.Seq2[api.Patch, api.Errno] {
	return func(yield func(api.Patch, api.Errno) bool) {
		for range steps {
			var e api.Errno
			p, e = s.step(p)
			if !yield(p, e) || e != api.OK {
				return
			}
		}
	}
}

// step returns the patch after a step from a valid one.
func (s *sea) step(p api.Patch) (api.Patch, api.Errno) {
	if p.Time+s.seconds > api.MaxTime {
		return api.Patch{}, api.ErrRange
	}
	afloat, onTheWay, off := [...]counts{newCounts(s.grid), newCounts(s.grid)}, newCounts(s.grid), p.Off
	if s.drifter.Jibes {
		afloat[api.ToRight] = afloat[api.ToLeft]
	}
	all := s.weatherAt(p.Time)
	for side, r := range [...][]api.Run{api.ToLeft: p.Left, api.ToRight: p.Right} {
		groups, e := s.groups(r, all, side)
		if e != api.OK {
			return api.Patch{}, e
		}
		for push, group := range groups {
			off = s.grow(afloat[side], group, push) || off
			s.grow(onTheWay, group, withRest(push))
		}
	}
	left, right, passed, beached := afloat[api.ToLeft].sums(), afloat[api.ToRight].sums(), onTheWay.sums(), covered(s.grid, p.Beached)
	conditions := [...]func(c api.Cell) bool{
		func(c api.Cell) bool { return left.has(c) && !s.land.has(c) },
		func(c api.Cell) bool { return right.has(c) && !s.land.has(c) },
		func(c api.Cell) bool { return beached.has(c) || passed.has(c) && s.land.has(c) },
	}
	return patchOf(p.Time+s.seconds, off, func(part int) ([]api.Run, api.Errno) {
		return chosen(s.grid, conditions[part])
	})
}

// grow adds where a push leads to from some runs, and reports whether that is off the grid, too.
func (s *sea) grow(t counts, group []api.Run, push api.Push) (off bool) {
	reach := reachOf(s.grid, push)
	for _, run := range group {
		all := reach.of(run)
		part := all.on(s.grid)
		t.add(part)
		off = off || part != all
	}
	return off
}
