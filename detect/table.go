package detect

import "cresset/api"

// kind is the sensor, the object and the light of a row.
type kind [3]int

func kindOf(row api.Sight) kind {
	return kind{row.Sensor, row.Object, row.Light}
}

// isSight reports whether all numbers of a row are in their ranges.
func isSight(row api.Sight) bool {
	for _, n := range kindOf(row) {
		if !isBetween(0, n, api.MaxSorts-1) {
			return false
		}
	}
	return isBetween(0, row.Sea, api.MaxSea) && isBetween(0, row.Width, api.MaxSweep)
}

// areInOrder reports whether one of two rows has a greater sea, and its width is not greater.
func areInOrder(a, b api.Sight) bool {
	if a.Sea > b.Sea {
		a, b = b, a
	}
	return a.Sea < b.Sea && a.Width >= b.Width
}

// least returns the element with the least key of those for which a condition holds, and whether there is one.
func least[T any](l []T, holds func(T) bool, key func(T) int) (best T, ok bool) {
	for _, next := range l {
		if holds(next) && (!ok || key(next) < key(best)) {
			best, ok = next, true
		}
	}
	return best, ok
}

func isBetween(low, n, high int) bool {
	return low <= n && n <= high
}
