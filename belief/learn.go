package belief

import "cresset/api"

// outcome is what is believed after something was noticed, and the chance of that.
type outcome struct {
	masses []api.Mass
	chance api.Part
}

// factor returns how likely a notice is at a place. (What is gone is a cell of no region.)
func factor(n api.Notice, p place) api.Part {
	switch {
	case n.Of>>p.scene&1 == 0:
		return one()
	case has(n.Where, p.cell):
		return n.In
	}
	return n.Out
}

// learn returns what masses become by a notice, and its evidence.
func learn(l []api.Mass, n api.Notice) outcome {
	return weigh(l, func(p place) api.Part { return factor(n, p) })
}

// weigh returns the shares of the products of masses with what is told of their places, and the sum of these products; it panics with ErrNone if that is 0.
func weigh(l []api.Mass, told func(place) api.Part) outcome {
	products := parts(l, func(m api.Mass) api.Part { return times(m.Weight, told(placeOf(m))) })
	sum := total(products)
	if sum == zero() {
		panic(api.ErrNone)
	}
	var after []api.Mass
	for i, p := range products {
		if p != zero() {
			after = append(after, api.Mass{Scene: l[i].Scene, Cell: l[i].Cell, Weight: deep(over(p, sum))})
		}
	}
	return outcome{after, sum}
}
