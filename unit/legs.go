package unit

import (
	"slices"

	"cresset/api"
)

// Where returns where a unit is.
func Where(legs []api.Leg, t int) (low, high api.Spot, e api.Errno) {
	if !areLegs(legs) {
		return api.Spot{}, api.Spot{}, api.ErrArg
	}
	leg, ok := legAt(legs, t)
	if !ok {
		return api.Spot{}, api.Spot{}, api.ErrNone
	}
	low, high = placeAt(leg, t)
	return low, high, api.OK
}

// Left returns the fuel that is left.
func Left(u api.Unit, legs []api.Leg, t int) (int, api.Errno) {
	if !CheckUnit(u) || !areLegs(legs) {
		return 0, api.ErrArg
	}
	leg, ok := legAt(legs, t)
	if !ok {
		return 0, api.ErrNone
	}
	return leftAt(u, leg, t), api.OK
}

// areLegs reports whether legs are valid.
func areLegs(l []api.Leg) bool {
	if len(l) == 0 || !all(l, isLeg) {
		return false
	}
	for i, next := range l[1:] {
		if next.From != l[i].To || next.Start != l[i].Leave {
			return false
		}
	}
	return true
}

// isLeg reports whether a leg is valid on its own.
func isLeg(l api.Leg) bool {
	return isSpot(l.From) && isSpot(l.To) && isTime(l.Start) && isTime(l.Arrive) && isTime(l.Leave) &&
		l.Start <= l.Arrive && l.Arrive <= l.Leave && (l.Start < l.Arrive || l.From == l.To) && isFuel(l.Fuel)
}

// legAt returns the first of the legs that is not over before a time, and whether the unit is under way then.
func legAt(l []api.Leg, t int) (api.Leg, bool) {
	i := slices.IndexFunc(l, func(leg api.Leg) bool { return t <= leg.Leave })
	if i < 0 || t < l[0].Start {
		return api.Leg{}, false
	}
	return l[i], true
}

// placeAt returns where a unit is at a time of a leg, rounded down and rounded up.
func placeAt(l api.Leg, t int) (low, high api.Spot) {
	if t >= l.Arrive {
		return l.To, l.To
	}
	x, y := (l.To.X-l.From.X)*(t-l.Start), (l.To.Y-l.From.Y)*(t-l.Start)
	long := l.Arrive - l.Start
	low = api.Spot{X: l.From.X + roundDown(x, long), Y: l.From.Y + roundDown(y, long)}
	high = api.Spot{X: l.From.X + roundUp(x, long), Y: l.From.Y + roundUp(y, long)}
	return low, high
}

// leftAt returns the fuel that is left at a time of a leg. What burns until its end is rounded down, as it is never more than what is left.
func leftAt(u api.Unit, l api.Leg, t int) int {
	return l.Fuel + roundDown(u.Burn*(l.Leave-t), hour)
}
