package report

import (
	"slices"

	"cresset/api"
)

// maxAim is how great a coordinate of a direction may be.
const maxAim = 1000

// Bearing returns an area that has all places between two directions.
func Bearing(o api.Spot, left, right api.Spot, reach int) ([]api.Spot, api.Errno) {
	switch {
	case !isPlace(o) || !isDirection(left) || !isDirection(right) || !isPair(left, right):
		return nil, api.ErrArg
	case !isFrom(reach, 1, api.MaxPlace) || max(o.X, -o.X, o.Y, -o.Y)+reach > api.MaxPlace:
		return nil, api.ErrRange
	}
	area := wedge(left, right, reach)
	for i, p := range area {
		area[i] = api.Spot{X: o.X + p.X, Y: o.Y + p.Y}
	}
	return area, api.OK
}

func isDirection(d api.Spot) bool {
	return d != api.Spot{} && isFrom(d.X, -maxAim, maxAim) && isFrom(d.Y, -maxAim, maxAim)
}

// isPair reports whether two directions are one, or less than a half circle leads from right to left.
func isPair(left, right api.Spot) bool {
	turn := cross(right, left)
	return turn > 0 || turn == 0 && right.X*left.X+right.Y*left.Y > 0
}

// wedge returns an area that has all places between the directions, in the square around (0, 0) whose sides are reach away. It has no place outside of the square.
func wedge(left, right api.Spot, reach int) []api.Spot {
	first, last := rayEnd(right, reach, false), rayEnd(left, reach, true)
	if first == last { // one ray, which ends at an integer place
		return []api.Spot{{}, first}
	}
	var area []api.Spot
	if cross(first, last) > 0 { // otherwise the ends are so far apart that (0, 0) is not outside of the line between them
		area = append(area, api.Spot{})
	}
	area = append(area, first)
	area = append(area, cornersBetween(left, right, reach)...)
	return append(area, last)
}

// cornersBetween returns the corners of the square that are between the directions, and on none of them, from right to left.
func cornersBetween(left, right api.Spot, reach int) []api.Spot {
	var between []api.Spot
	for _, c := range [4]api.Spot{{X: reach, Y: reach}, {X: -reach, Y: reach}, {X: -reach, Y: -reach}, {X: reach, Y: -reach}} {
		if cross(right, c) > 0 && cross(c, left) > 0 {
			between = append(between, c)
		}
	}
	slices.SortFunc(between, func(a, b api.Spot) int { return cross(b, a) })
	return between
}

// rayEnd returns the integer place next to where a ray from (0, 0) meets the square's side: to the ray's left or right, or just there. It is on the same side.
func rayEnd(d api.Spot, reach int, toLeft bool) api.Spot {
	m := max(d.X, -d.X, d.Y, -d.Y)
	switch m {
	case d.X: // at the side to the right, where left is up
		return api.Spot{X: reach, Y: divide(reach*d.Y, m, toLeft)}
	case -d.X:
		return api.Spot{X: -reach, Y: divide(reach*d.Y, m, !toLeft)}
	case d.Y:
		return api.Spot{X: divide(reach*d.X, m, !toLeft), Y: reach}
	}
	return api.Spot{X: divide(reach*d.X, m, toLeft), Y: -reach}
}

// divide returns the integer next to n / m, for an m above 0: not below it if up, otherwise not above it.
func divide(n, m int, up bool) int {
	quotient, left := n/m, n%m // n / m is towards 0
	switch {
	case up && left > 0:
		return quotient + 1
	case !up && left < 0:
		return quotient - 1
	}
	return quotient
}
