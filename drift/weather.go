package drift

import (
	"iter"

	"cresset/api"
)

// weather is what drives what drifts in a cell.
type weather struct {
	land          bool
	current, wind speeds
}

// weatherAt returns the weather of all cells at a time, row by row.
func (s *sea) weatherAt(time int) []weather {
	all := make([]weather, s.grid.W*s.grid.H)
	paint := func(r []api.Run, change func(w *weather)) {
		for c := range cells(r) {
			change(&all[c.Y*s.grid.W+c.X])
		}
	}
	paint(s.grid.Land, func(w *weather) { w.land = true })
	for _, f := range s.flows.Currents {
		if isAt(f, time) {
			paint(f.Where, func(w *weather) { w.current.widen(f) })
		}
	}
	for _, f := range s.flows.Winds {
		if isAt(f, time) {
			paint(f.Where, func(w *weather) { w.wind.widen(f) })
		}
	}
	return all
}

// groups returns the cells of runs that are not land by their pushes, ErrNone if one of these is not known.
func (s *sea) groups(r []api.Run, all []weather, side int) (map[api.Push][]api.Run, api.Errno) {
	groups := map[api.Push][]api.Run{}
	for run, w := range s.pieces(r, all) {
		if w.land {
			continue
		}
		if !w.current.known || !w.wind.known {
			return nil, api.ErrNone
		}
		push := pushOf(s.drifter, w.current, w.wind, side, s.seconds)
		groups[push] = append(groups[push], run)
	}
	return groups, api.OK
}

// pieces yields runs in pieces that have the same weather each.
func (s *sea) pieces(r []api.Run, all []weather) iter.Seq2[api.Run, weather] {
	return func(yield func(api.Run, weather) bool) {
		for _, run := range r {
			row := all[run.Y*s.grid.W:]
			for from := run.From; from < run.To; {
				to := from + 1
				for to < run.To && row[to] == row[from] {
					to++
				}
				if !yield(api.Run{Y: run.Y, From: from, To: to}, row[from]) {
					return
				}
				from = to
			}
		}
	}
}
