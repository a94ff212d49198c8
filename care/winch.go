package care

import "cresset/api"

// check is something that can be against an evacuation.
type check struct {
	number  int
	against func(w api.Winch) bool
}

// Lift returns what is against an evacuation.
func Lift(w api.Winch) ([]int, api.Errno) {
	if !isWinch(w) {
		return nil, api.ErrArg
	}
	var l []int
	for _, c := range checks() {
		if c.against(w) {
			l = append(l, c.number)
		}
	}
	return l, api.OK
}

// checks returns all that can be against an evacuation, in order.
func checks() [5]check {
	return [5]check{
		{1, func(w api.Winch) bool { return w.Hover+w.Swing > w.Cable }},
		{2, func(w api.Winch) bool { return w.Load > w.MostLoad }},
		{3, func(w api.Winch) bool { return w.Wind > w.MostWind }},
		{4, func(w api.Winch) bool { return w.Hover < 3*w.Swing }},
		{5, func(w api.Winch) bool { return 22*w.Swing > 14000*w.Period }}, // the deck moves faster than 2 m/s, with 22/7 for pi
	}
}

func isWinch(w api.Winch) bool {
	return w.Period >= 1 && areForces(w.Hover, w.Swing, w.Cable, w.Load, w.MostLoad, w.Wind, w.MostWind, w.Period)
}

// areForces reports whether all numbers of a winch or a tow are in their range.
func areForces(l ...int) bool {
	return all(l, func(n int) bool { return isBetween(0, n, api.MaxForces) })
}
