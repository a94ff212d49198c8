package drift

import (
	"slices"

	"cresset/api"
	"cresset/grid"
)

// Before returns the patch from which a step can have led to one.
func Before(g api.Grid, w api.Flows, d api.Drifter, p api.Patch, seconds int) (api.Patch, api.Errno) {
	s, e := newSea(g, w, d, seconds, p)
	if e != api.OK {
		return api.Patch{}, e
	}
	return s.before(p)
}

// Between returns where something was that went from one patch to another one.
func Between(g api.Grid, w api.Flows, d api.Drifter, from, to api.Patch, seconds int) ([]api.Patch, api.Errno) {
	s, e := newSea(g, w, d, seconds, from, to)
	if e != api.OK {
		return nil, e
	}
	time := to.Time - from.Time
	if time < 0 || time%seconds != 0 || time/seconds > api.MaxDrifts {
		return nil, api.ErrRange
	}
	l := []api.Patch{from}
	for next, e := range s.steps(from, time/seconds) {
		if e != api.OK {
			return nil, e
		}
		l = append(l, next)
	}
	for i, p := range slices.Backward(l) {
		if i < len(l)-1 {
			if to, e = s.before(l[i+1]); e != api.OK {
				return nil, e
			}
		}
		if l[i], e = Meet(g, p, to); e != api.OK {
			return nil, e
		}
	}
	return l, api.OK
}

// before returns the patch from which a step can have led to a valid one.
func (s *sea) before(p api.Patch) (api.Patch, api.Errno) {
	if p.Time < s.seconds {
		return api.Patch{}, api.ErrRange
	}
	afloat, beached := [...]counts{earlier(s.grid, p.Left), earlier(s.grid, p.Right)}, earlier(s.grid, p.Beached)
	if s.drifter.Jibes {
		both := earlier(s.grid, p.Left, p.Right)
		afloat = [...]counts{both, both}
	}
	all, e := grid.All(s.grid)
	if e != api.OK {
		return api.Patch{}, e
	}
	weathers := s.weatherAt(p.Time - s.seconds)
	var found [2][]api.Cell
	for side := range found {
		groups, e := s.groups(all, weathers, side)
		if e != api.OK {
			return api.Patch{}, e
		}
		for push, group := range groups {
			there, onTheWay := reachOf(s.grid, push), reachOf(s.grid, withRest(push))
			for c := range cells(group) {
				if s.leads(there, c, afloat[side]) || s.leads(onTheWay, c, beached) {
					found[side] = append(found[side], c)
				}
			}
		}
	}
	return patchOf(p.Time-s.seconds, false, func(part int) ([]api.Run, api.Errno) {
		if part < len(found) {
			return grid.Region(s.grid, found[part])
		}
		return slices.Clone(p.Beached), api.OK
	})
}

// leads reports whether a reach leads from a cell to one of those that earlier has counted.
func (s *sea) leads(r reach, c api.Cell, to counts) bool {
	return to.meets(r.of(api.Run{Y: c.Y, From: c.X, To: c.X + 1}).on(s.grid))
}
