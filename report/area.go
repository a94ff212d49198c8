package report

import "cresset/api"

// CheckArea reports whether an area is valid.
func CheckArea(l []api.Spot) bool {
	if !isFrom(len(l), 1, api.MaxCorners) {
		return false
	}
	for _, p := range l {
		if !isPlace(p) {
			return false
		}
	}
	switch len(l) {
	case 1:
		return true
	case 2:
		return l[0] != l[1]
	}
	return isConvex(l)
}

// Has reports whether an area has a place.
func Has(l []api.Spot, p api.Spot) bool {
	if !CheckArea(l) || !isPlace(p) {
		return false
	}
	switch len(l) {
	case 1:
		return p == l[0]
	case 2:
		return isBetween(l[0], l[1], p)
	}
	return isInside(l, p)
}

func isPlace(p api.Spot) bool {
	return isFrom(p.X, -api.MaxPlace, api.MaxPlace) && isFrom(p.Y, -api.MaxPlace, api.MaxPlace)
}

// cross returns how far b is to the left of a: above 0 if a turn to the left leads from the direction a to b, 0 if they are on one line.
func cross(a, b api.Spot) int {
	return a.X*b.Y - a.Y*b.X
}

// from returns the way from a to b.
func from(a, b api.Spot) api.Spot {
	return api.Spot{X: b.X - a.X, Y: b.Y - a.Y}
}

// turn returns how far the way from a over b to c turns to the left at b.
func turn(a, b, c api.Spot) int {
	return cross(from(a, b), from(b, c))
}

// after returns the corner behind the corner i, in the circle of the list.
func after(l []api.Spot, i int) api.Spot {
	return l[(i+1)%len(l)]
}

// isConvex reports whether three or more corners turn to the left at each of them, and are to the right of no edge. (Then the sum over all edges is above 0, too, since each edge is one of the convex hull. Whoever goes around the hull more than once stands for the same places.)
func isConvex(l []api.Spot) bool {
	for i, a := range l {
		if !isInside(l, a) || turn(a, after(l, i), after(l, i+1)) <= 0 {
			return false
		}
	}
	return true
}

// isInside reports whether p is to the right of no edge.
func isInside(l []api.Spot, p api.Spot) bool {
	for i, a := range l {
		if turn(a, after(l, i), p) < 0 {
			return false
		}
	}
	return true
}

// isBetween reports whether p is on the line between a and b.
func isBetween(a, b, p api.Spot) bool {
	return turn(a, b, p) == 0 &&
		isFrom(p.X, min(a.X, b.X), max(a.X, b.X)) && isFrom(p.Y, min(a.Y, b.Y), max(a.Y, b.Y))
}
