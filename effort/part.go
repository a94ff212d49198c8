package effort

import (
	"cresset/api"
	"cresset/weight"
)

// attempt returns what work returns, or ErrRange if a fraction on the way does not fit: nothing but fitting panics in this package.
func attempt[T any](work func() T) (result T, e api.Errno) {
	defer func() {
		if recover() != nil {
			e = api.ErrRange
		}
	}()
	return work(), api.OK
}

// fitting returns p, and panics if it does not fit.
func fitting(p api.Part, e api.Errno) api.Part {
	if e != api.OK {
		panic(e)
	}
	return p
}

func zero() api.Part {
	return api.Part{Num: "0", Den: "1"}
}

// whole returns a number, which is not negative, as a fraction.
func whole(n int) api.Part {
	return fitting(weight.Ratio(n, 1))
}

func minus(a, b api.Part) api.Part {
	return fitting(weight.Sub(a, b))
}

func times(a, b api.Part) api.Part {
	return fitting(weight.Mul(a, b))
}

// total returns a sum of fractions, added one after another.
func total(l []api.Part) api.Part {
	return fitting(weight.Sum(l))
}

// isPart reports whether p is a valid fraction of numbers that have at most so many digits.
func isPart(p api.Part, digits int) bool {
	return len(p.Num) <= digits && len(p.Den) <= digits && weight.Check(p) == api.OK
}
