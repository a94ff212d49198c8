package care

import (
	"iter"
	"sort"

	"cresset/api"
)

const (
	maxTonsPerCm = 1000
	maxFriction  = 1000
)

// stretch is a tide between two points that follow on each other, from a time on.
type stretch struct {
	from, to api.Tide
	low      int
}

// Float returns when a ship comes off the ground.
func Float(g api.Ground, l []api.Tide, from int) (first, last int, e api.Errno) {
	if !isTide(l) || !isGround(g) {
		return 0, 0, api.ErrArg
	}
	end := l[len(l)-1].Time
	if !isBetween(l[0].Time, from, end) {
		return 0, 0, api.ErrRange
	}
	first = firstTime(l, from, func(s stretch, time int) bool { return comesOff(g, s, time) })
	if first > end {
		return 0, 0, api.ErrNone
	}
	last = firstTime(l, first, func(s stretch, time int) bool { return !comesOff(g, s, time) }) - 1
	return first, last, api.OK
}

// comesOff reports whether a ship comes off at a time of a stretch. Where nothing is missing, it does by the same comparison, as its other side is never below 0.
func comesOff(g api.Ground, s stretch, time int) bool {
	length := max(1, s.to.Time-s.from.Time) // a last point is a stretch of its own
	rise := (s.to.Height - s.from.Height) * (time - s.from.Time)
	missing := (g.Draught-g.Depth-s.from.Height)*length - rise // mm, as often as the stretch is long: an integer
	return g.TonsPerCm*missing*g.Friction <= 10000*g.Pull*length
}

// firstTime returns the first time of a tide, from one on, at which something holds that changes at most once in each stretch; a time behind the tide, if there is none.
func firstTime(l []api.Tide, from int, holds func(s stretch, time int) bool) int {
	for s := range stretches(l, from) {
		time := s.first(func(time int) bool { return holds(s, time) })
		if time <= s.to.Time {
			return time
		}
	}
	return l[len(l)-1].Time + 1
}

// stretches yields the stretches of a tide from a time on.
func stretches(l []api.Tide, from int) iter.Seq[stretch] {
	return func(yield func(stretch) bool) {
		for i, p := range l {
			next := l[min(i+1, len(l)-1)]
			if from <= next.Time && !yield(stretch{p, next, max(from, p.Time)}) {
				return
			}
		}
	}
}

// first returns the first time of the stretch at which something holds that changes at most once in it; the one behind it, if there is none.
func (s stretch) first(holds func(time int) bool) int {
	if holds(s.low) {
		return s.low
	}
	return s.low + sort.Search(s.to.Time-s.low+1, func(n int) bool { return holds(s.low + n) })
}

func isTide(l []api.Tide) bool {
	if !isBetween(1, len(l), api.MaxTide) {
		return false
	}
	least := 0
	for _, p := range l {
		if !isBetween(least, p.Time, api.MaxDay) || !isBetween(-api.MaxHeight, p.Height, api.MaxHeight) {
			return false
		}
		least = p.Time + 1
	}
	return true
}

func isGround(g api.Ground) bool {
	return isBetween(0, g.Draught, api.MaxHeight) && isBetween(-api.MaxHeight, g.Depth, api.MaxHeight) &&
		isBetween(1, g.TonsPerCm, maxTonsPerCm) && isBetween(0, g.Pull, api.MaxTons) && isBetween(0, g.Friction, maxFriction)
}
