package weight

import "cresset/api"

// Add returns a sum.
func Add(a, b api.Part) (api.Part, api.Errno) {
	x, y, e := openBoth(a, b)
	if e != api.OK {
		return api.Part{}, e
	}
	return attempt(func() api.Part { return x.plus(y).part() })
}

// Sub returns a difference.
func Sub(a, b api.Part) (api.Part, api.Errno) {
	x, y, e := openBoth(a, b)
	switch {
	case e != api.OK:
		return api.Part{}, e
	case x.compare(y) < 0:
		return api.Part{}, api.ErrLess
	}
	return attempt(func() api.Part { return x.minus(y).part() })
}

// Mul returns a product.
func Mul(a, b api.Part) (api.Part, api.Errno) {
	x, y, e := openBoth(a, b)
	if e != api.OK {
		return api.Part{}, e
	}
	return attempt(func() api.Part { return x.times(y).part() })
}

// Div returns a quotient.
func Div(a, b api.Part) (api.Part, api.Errno) {
	x, y, e := openBoth(a, b)
	switch {
	case e != api.OK:
		return api.Part{}, e
	case y.num.isZero():
		return api.Part{}, api.ErrZero
	}
	return attempt(func() api.Part { return x.over(y).part() })
}

// Not returns what is left of 1.
func Not(p api.Part) (api.Part, api.Errno) {
	r, e := open(p)
	switch {
	case e != api.OK:
		return api.Part{}, e
	case r.compare(one()) > 0:
		return api.Part{}, api.ErrLess
	}
	return attempt(func() api.Part { return one().minus(r).part() })
}

// Compare compares two fractions.
func Compare(a, b api.Part) int {
	x, y, e := openBoth(a, b)
	if e != api.OK {
		return 0
	}
	return x.compare(y)
}
