package share

import (
	"slices"

	"cresset/api"
)

// vector has a number for each centre: that of its last statement which is known, or asked about.
type vector [api.MaxCentres]int

// isVector reports whether a list is a vector.
func isVector(l []int) bool {
	return len(l) == api.MaxCentres && !slices.ContainsFunc(l, func(n int) bool { return !isBetween(0, n, api.MaxSaid) })
}

// numbers returns the vector that a list is.
func numbers(l []int) vector {
	return vector(l)
}

// of returns the number of a centre.
func (v vector) of(centre int) int {
	return v[centre-1]
}

// isUpTo reports whether no number is greater than that of another vector.
func (v vector) isUpTo(most vector) bool {
	return join(v, most) == most
}

// join returns the vector of the greater numbers.
func join(a, b vector) vector {
	for i, n := range b {
		a[i] = max(a[i], n)
	}
	return a
}
