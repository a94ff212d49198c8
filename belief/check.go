package belief

import (
	"cresset/api"
	"cresset/grid"
	"cresset/weight"
)

const (
	maxMasses = 1 << 16
	maxOf     = 1<<api.MaxScenes - 1
)

// isBelief reports whether a belief is valid.
func isBelief(b api.Belief) bool {
	weightOf := func(s api.Scene) api.Part { return s.Weight }
	return grid.CheckGrid(b.Sea) == api.OK &&
		isBetween(1, len(b.Scenes), api.MaxScenes) && areWeights(parts(b.Scenes, weightOf)) &&
		all(b.Scenes, func(s api.Scene) bool { return isScene(b.Sea, s) })
}

// isScene reports whether a scene, whose Weight is looked at elsewhere, is valid for a sea.
func isScene(sea api.Grid, s api.Scene) bool {
	cellOf := func(s api.Share) api.Cell { return s.Cell }
	weightOf := func(s api.Share) api.Part { return s.Weight }
	return isBetween(1, len(s.Start), api.MaxStarts) && areWeights(parts(s.Start, weightOf)) &&
		all(s.Start, func(s api.Share) bool { return isCell(sea, s.Cell) }) && differ(s.Start, cellOf) &&
		areStrides(s.Strides)
}

// areWeights reports whether fractions are valid, and at least one of them is above 0.
func areWeights(l []api.Part) bool {
	return all(l, isTiny) && !all(l, func(p api.Part) bool { return p == zero() })
}

func areStrides(l []api.Stride) bool {
	if !isBetween(1, len(l), api.MaxMoves) || !all(l, isStride) || !differ(l, moveOf) {
		return false
	}
	sum, e := weight.Sum(parts(l, func(s api.Stride) api.Part { return s.Chance }))
	return e == api.OK && sum == one()
}

func isStride(s api.Stride) bool {
	return isBetween(-api.MaxStride, s.DX, api.MaxStride) && isBetween(-api.MaxStride, s.DY, api.MaxStride) && isTiny(s.Chance)
}

func moveOf(s api.Stride) [2]int {
	return [2]int{s.DX, s.DY}
}

// isNotice reports whether a notice is valid for a valid belief.
func isNotice(b api.Belief, n api.Notice) bool {
	return isBetween(0, n.Time, api.MaxTimes) && isBetween(0, n.Of, maxOf) &&
		grid.CheckRegion(b.Sea, n.Where) == api.OK && isChance(n.In) && isChance(n.Out)
}

// checkStory returns ErrArg unless belief, notices and steps are valid, and no notice comes behind the steps; ErrLong for too many notices.
func checkStory(b api.Belief, notices []api.Notice, steps int) api.Errno {
	inTime := func(n api.Notice) bool { return isNotice(b, n) && n.Time <= steps }
	switch {
	case !isBelief(b) || !isBetween(0, steps, api.MaxTimes) || !all(notices, inTime):
		return api.ErrArg
	case len(notices) > api.MaxNotices:
		return api.ErrLong
	}
	return api.OK
}

// areMasses reports whether masses are valid for a valid belief.
func areMasses(b api.Belief, l []api.Mass) bool {
	if len(l) > maxMasses {
		return false
	}
	for i, m := range l {
		if !isMass(b, m) || i > 0 && comparePlaces(placeOf(l[i-1]), placeOf(m)) >= 0 {
			return false
		}
	}
	return true
}

func isMass(b api.Belief, m api.Mass) bool {
	return isBetween(0, m.Scene, len(b.Scenes)-1) && (m.Cell == gone() || isCell(b.Sea, m.Cell)) &&
		isPart(m.Weight, api.MaxDeep) && m.Weight != zero()
}

func isCell(sea api.Grid, c api.Cell) bool {
	return isBetween(0, c.X, sea.W-1) && isBetween(0, c.Y, sea.H-1)
}

func isTiny(p api.Part) bool {
	return isPart(p, api.MaxTiny)
}

func isChance(p api.Part) bool {
	return isTiny(p) && weight.Compare(p, one()) <= 0
}

// isPart reports whether p is a valid fraction of numbers that have at most so many digits.
func isPart(p api.Part, digits int) bool {
	return isShort(p, digits) && weight.Check(p) == api.OK
}

// parts returns the fraction that belongs to each element.
func parts[T any](l []T, of func(T) api.Part) []api.Part {
	var found []api.Part
	for _, next := range l {
		found = append(found, of(next))
	}
	return found
}

// all reports whether a condition holds for all elements.
func all[T any](l []T, holds func(T) bool) bool {
	for _, next := range l {
		if !holds(next) {
			return false
		}
	}
	return true
}

// differ reports whether no two elements have the same key.
func differ[T any, K comparable](l []T, key func(T) K) bool {
	seen := map[K]bool{}
	for _, next := range l {
		seen[key(next)] = true
	}
	return len(seen) == len(l)
}

func isBetween(low, n, high int) bool {
	return low <= n && n <= high
}
