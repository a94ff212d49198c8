package weight

import (
	"slices"

	"cresset/api"
)

// Sum returns the sum of all.
func Sum(l []api.Part) (api.Part, api.Errno) {
	opened, e := openList(l)
	if e != api.OK {
		return api.Part{}, e
	}
	return attempt(func() api.Part { return total(opened).part() })
}

// Share returns each element's share of the sum.
func Share(l []api.Part) ([]api.Part, api.Errno) {
	opened, e := openList(l)
	if e != api.OK {
		return nil, e
	}
	shares, _, e := divideUp(opened)
	return shares, e
}

// Update returns what weights become by evidence.
func Update(prior, like []api.Part) (after []api.Part, evidence api.Part, e api.Errno) {
	joint, e := multiply(prior, like)
	if e != api.OK {
		return nil, api.Part{}, e
	}
	return divideUp(joint)
}

// Mean returns the sum of the products.
func Mean(weights, values []api.Part) (api.Part, api.Errno) {
	products, e := multiply(weights, values)
	if e != api.OK {
		return api.Part{}, e
	}
	return attempt(func() api.Part { return total(products).part() })
}

// Rank returns the indices of greater elements first.
func Rank(l []api.Part) ([]int, api.Errno) {
	opened, e := openList(l)
	if e != api.OK {
		return nil, e
	}
	return rank(opened), api.OK
}

// Cover returns how many elements have a sum.
func Cover(l []api.Part, p api.Part) (int, api.Errno) {
	opened, e := openList(l)
	if e != api.OK {
		return 0, e
	}
	goal, e := open(p)
	if e != api.OK {
		return 0, e
	}
	n, e := attempt(func() int { return reach(opened, goal) })
	switch {
	case e != api.OK:
		return 0, e
	case n > len(l):
		return 0, api.ErrNone
	}
	return n, api.OK
}

// openList returns the ratios of a list, or ErrLong or ErrArg unless the list is valid.
func openList(l []api.Part) ([]ratio, api.Errno) {
	if len(l) > api.MaxList {
		return nil, api.ErrLong
	}
	opened := make([]ratio, len(l))
	for i, p := range l {
		r, e := open(p)
		if e != api.OK {
			return nil, e
		}
		opened[i] = r
	}
	return opened, api.OK
}

// fold returns what step makes of start and all elements, one after another.
func fold[T, R any](l []T, start R, step func(so R, next T) R) R {
	for _, next := range l {
		start = step(start, next)
	}
	return start
}

// total returns the sum of l; it panics if a sum on the way does not fit.
func total(l []ratio) ratio {
	return fold(l, zero(), ratio.plus)
}

// divideUp returns each element's share of the sum, and the sum.
func divideUp(l []ratio) (shares []api.Part, sum api.Part, e api.Errno) {
	all, e := attempt(func() ratio { return total(l) })
	switch {
	case e != api.OK:
		return nil, api.Part{}, e
	case all.num.isZero():
		return nil, api.Part{}, api.ErrNone
	}
	shares, e = attempt(func() []api.Part {
		return fold(l, []api.Part{}, func(so []api.Part, next ratio) []api.Part {
			return append(so, next.over(all).part())
		})
	})
	if e != api.OK {
		return nil, api.Part{}, e
	}
	return shares, all.part(), api.OK
}

// multiply returns the products of the elements of two lists, or ErrLong, ErrArg or ErrRange.
func multiply(a, b []api.Part) ([]ratio, api.Errno) {
	if len(b) > api.MaxList { // ahead of the elements of a
		return nil, api.ErrLong
	}
	x, e := openList(a)
	if e != api.OK {
		return nil, e
	}
	y, e := openList(b)
	switch {
	case e != api.OK:
		return nil, e
	case len(x) != len(y):
		return nil, api.ErrArg
	}
	return attempt(func() []ratio {
		for i := range x {
			x[i] = x[i].times(y[i])
		}
		return x
	})
}

// rank returns the indices of l, those of greater elements first.
func rank(l []ratio) []int {
	order := make([]int, len(l))
	for i := range order {
		order[i] = i
	}
	slices.SortStableFunc(order, func(i, k int) int { return l[k].compare(l[i]) })
	return order
}

// reach returns how many elements of l, the greatest ones first, have a sum of at least goal, and one more than all if they have less; it panics if a sum on the way does not fit.
func reach(l []ratio, goal ratio) int {
	sum := zero()
	for n, i := range rank(l) {
		if sum.compare(goal) >= 0 {
			return n
		}
		sum = sum.plus(l[i])
	}
	if sum.compare(goal) >= 0 {
		return len(l)
	}
	return len(l) + 1
}
