package care

import "cresset/api"

// tankNumber is the number of a tank.
type tankNumber int

// Stability returns the stability of a hull.
func Stability(h api.Hull, l []api.Tank) (int, api.Errno) {
	if e := checkShip(h, l); e != api.OK {
		return 0, e
	}
	return stability(h, l), api.OK
}

// Drain returns the fewest tanks that have to be empty.
func Drain(h api.Hull, l []api.Tank, least int) ([]int, api.Errno) {
	if e := checkShip(h, l); e != api.OK {
		return nil, e
	}
	if !isBetween(-api.MaxSize, least, api.MaxSize) {
		return nil, api.ErrRange
	}
	empty, ok := first(choices[tankNumber](len(l)), func(empty set[tankNumber]) bool {
		return stability(h, others(l, empty)) >= least
	})
	if !ok {
		return nil, api.ErrNone
	}
	return empty.list(), api.OK
}

// others returns the tanks that are not empty.
func others(l []api.Tank, empty set[tankNumber]) []api.Tank {
	var full []api.Tank
	for n, t := range l {
		if !empty.has(tankNumber(n)) {
			full = append(full, t)
		}
	}
	return full
}

// stability returns the stability of a valid hull with water in valid tanks. All heights are counted in twelfths of a cm, as then the moments are integers.
func stability(h api.Hull, l []api.Tank) int {
	weight := 1000000 * h.Tons
	moments := 12 * weight * h.Centre
	for _, t := range l {
		volume := t.Long * t.Wide * t.Deep
		weight += volume
		moments += volume * (12*t.Floor + 6*t.Deep)
		moments += t.Long * t.Wide * t.Wide * t.Wide // the water flows to the lower side
	}
	return roundDown(12*h.Meta*weight-moments, 12*weight)
}

func checkShip(h api.Hull, l []api.Tank) api.Errno {
	switch {
	case !isHull(h) || !all(l, isTank):
		return api.ErrArg
	case len(l) > api.MaxTanks:
		return api.ErrLong
	}
	return api.OK
}

func isHull(h api.Hull) bool {
	return isBetween(1, h.Tons, api.MaxTons) && isSize(h.Meta) && isSize(h.Centre)
}

func isTank(t api.Tank) bool {
	return isSize(t.Long) && isSize(t.Wide) && isSize(t.Deep) && isSize(t.Floor)
}

func isSize(n int) bool {
	return isBetween(0, n, api.MaxSize)
}

// roundDown returns a / b, rounded down, for a b above 0.
func roundDown(a, b int) int {
	n := a / b
	if a%b < 0 { // Go rounds towards 0
		n--
	}
	return n
}
