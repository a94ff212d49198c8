package drift

import (
	"cmp"

	"cresset/api"
	"cresset/grid"
)

// speeds is all speeds that a current or a wind can have (mm/s), if any are known.
type speeds struct {
	known     bool
	low, high api.Spot
}

// widen adds the speeds of a flow.
func (s *speeds) widen(f api.Flow) {
	if !s.known {
		*s = speeds{known: true, low: f.Low, high: f.High}
		return
	}
	s.low = api.Spot{X: min(s.low.X, f.Low.X), Y: min(s.low.Y, f.Low.Y)}
	s.high = api.Spot{X: max(s.high.X, f.High.X), Y: max(s.high.Y, f.High.Y)}
}

// speedsOf returns the speeds of a cell at a time.
func speedsOf(flows []api.Flow, c api.Cell, time int) speeds {
	var s speeds
	for _, f := range flows {
		if isAt(f, time) && grid.Has(f.Where, c) {
			s.widen(f)
		}
	}
	return s
}

// isAt reports whether a flow is there at a time.
func isAt(f api.Flow, time int) bool {
	return f.From <= time && time < f.To
}

// pushOf returns the push that a current and a wind, both known, give to a drifter.
func pushOf(d api.Drifter, current, wind speeds, side, seconds int) api.Push {
	down, across := span{d.DownLow, d.DownHigh}, span{d.CrossLow, d.CrossHigh}
	if side == api.ToRight {
		across = across.negative()
	}
	a, b := span{wind.low.X, wind.high.X}, span{wind.low.Y, wind.high.Y}
	u, v := span{current.low.X, current.high.X}, span{current.low.Y, current.high.Y}
	thousand := span{1000, 1000}
	x := u.times(thousand).plus(down.times(a)).plus(across.times(b).negative())
	y := v.times(thousand).plus(down.times(b)).plus(across.times(a))
	const metre = 1000 * 1000 // thousandths of a millimetre
	return api.Push{
		Low:  api.Spot{X: floor(x.low*seconds, metre), Y: floor(y.low*seconds, metre)},
		High: api.Spot{X: ceiling(x.high*seconds, metre), Y: ceiling(y.high*seconds, metre)},
	}
}

// withRest returns a push that has the moves of another one, and the move (0, 0).
func withRest(p api.Push) api.Push {
	return api.Push{
		Low:  api.Spot{X: min(p.Low.X, 0), Y: min(p.Low.Y, 0)},
		High: api.Spot{X: max(p.High.X, 0), Y: max(p.High.Y, 0)},
	}
}

// span is all numbers from low to high.
type span struct{ low, high int }

func (s span) plus(t span) span {
	return span{s.low + t.low, s.high + t.high}
}

func (s span) negative() span {
	return span{-s.high, -s.low}
}

func (s span) times(t span) span {
	low, high := bounds(s.low*t.low, s.low*t.high, s.high*t.low, s.high*t.high)
	return span{low, high}
}

// bounds returns the least and the greatest one of some values.
func bounds[T cmp.Ordered](first T, others ...T) (low, high T) {
	low, high = first, first
	for _, v := range others {
		low, high = min(low, v), max(high, v)
	}
	return low, high
}

// floor returns a / b, rounded down, for a b above 0.
func floor(a, b int) int {
	if a%b < 0 {
		return a/b - 1
	}
	return a / b
}

// ceiling returns a / b, rounded up, for a b above 0.
func ceiling(a, b int) int {
	return -floor(-a, b)
}
