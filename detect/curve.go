package detect

import (
	"iter"

	"cresset/api"
	"cresset/weight"
)

// attempt returns what work returns, or ErrRange if a fraction on the way does not fit: nothing but fitting panics in this package.
func attempt[T any](work func() T) (result T, e api.Errno) {
	defer func() {
		if recover() != nil {
			e = api.ErrRange
		}
	}()
	return work(), api.OK
}

// fitting returns p, and panics if it does not fit.
func fitting(p api.Part, e api.Errno) api.Part {
	if e != api.OK {
		panic(e)
	}
	return p
}

func zero() api.Part {
	return api.Part{Num: "0", Den: "1"}
}

func one() api.Part {
	return api.Part{Num: "1", Den: "1"}
}

// isPart reports whether p is a valid fraction of numbers that have at most so many digits.
func isPart(p api.Part, digits int) bool {
	return len(p.Num) <= digits && len(p.Den) <= digits && weight.Check(p) == api.OK
}

// isDeep reports whether p can be asked about.
func isDeep(p api.Part) bool {
	return isPart(p, api.MaxDeep)
}

// pairs yields each element that has a next one, and that one.
func pairs[T any](l []T) iter.Seq2[T, T] {
	return func(yield func(this, next T) bool) {
		for i := 1; i < len(l); i++ {
			if !yield(l[i-1], l[i]) {
				return
			}
		}
	}
}

// areShort reports whether all fractions of some bends are valid, and short enough for a curve.
func areShort(l []api.Bend) bool {
	for _, b := range l {
		if !isPart(b.Cover, api.MaxShort) || !isPart(b.Chance, api.MaxShort) {
			return false
		}
	}
	return true
}

// isRising reports whether bends begin with 0, go on with more coverage and no less chance, and end with a chance of at most 1.
func isRising(l []api.Bend) bool {
	if (l[0] != api.Bend{Cover: zero(), Chance: zero()}) {
		return false
	}
	for b, next := range pairs(l) {
		if weight.Compare(next.Cover, b.Cover) <= 0 || weight.Compare(next.Chance, b.Chance) < 0 {
			return false
		}
	}
	return weight.Compare(l[len(l)-1].Chance, one()) <= 0
}

// isConcave reports whether no slope of bends that rise is greater than the one before.
func isConcave(l []api.Bend) bool {
	var slopes []api.Part
	for b, next := range pairs(l) {
		slopes = append(slopes, slope(b, next))
	}
	for s, next := range pairs(slopes) {
		if weight.Compare(next, s) > 0 {
			return false
		}
	}
	return true
}

// slope returns the slope from a bend to the next one.
func slope(b, next api.Bend) api.Part {
	rise, way := fitting(weight.Sub(next.Chance, b.Chance)), fitting(weight.Sub(next.Cover, b.Cover))
	return fitting(weight.Div(rise, way))
}

// stretch returns the first bend, and the next one, of which a condition holds for the next one, and whether there are such.
func stretch(l []api.Bend, holds func(next api.Bend) bool) (b, next api.Bend, ok bool) {
	for b, next := range pairs(l) {
		if holds(next) {
			return b, next, true
		}
	}
	return api.Bend{}, api.Bend{}, false
}

// bendAt returns the last bend whose coverage is not above another one, and the slope from it on, by a valid curve.
func bendAt(l []api.Bend, cover api.Part) (b api.Bend, on api.Part) {
	b, next, ok := stretch(l, func(next api.Bend) bool { return weight.Compare(cover, next.Cover) < 0 })
	if !ok {
		return l[len(l)-1], zero()
	}
	return b, slope(b, next)
}

// chance returns the chance of a coverage, by a valid curve.
func chance(l []api.Bend, cover api.Part) api.Part {
	b, on := bendAt(l, cover)
	way := fitting(weight.Sub(cover, b.Cover))
	return fitting(weight.Add(b.Chance, fitting(weight.Mul(on, way))))
}

// need returns the least coverage that has a chance, which is not above that of the last bend, by a valid curve.
func need(l []api.Bend, chance api.Part) api.Part {
	if chance == zero() { // where the curve may be flat, so that its slope is no divisor
		return zero()
	}
	b, next, _ := stretch(l, func(next api.Bend) bool { return weight.Compare(chance, next.Chance) <= 0 })
	rise := fitting(weight.Sub(chance, b.Chance))
	return fitting(weight.Add(b.Cover, fitting(weight.Div(rise, slope(b, next)))))
}
