package belief

import (
	"slices"

	"cresset/api"
)

// moment is a place at a time.
type moment struct {
	place
	time int
}

// outlook is what is noticed at a moment, and what follows from it.
type outlook struct{ noticed, follows api.Part }

// smooth returns the masses at each time from 0 to steps, by all notices.
func smooth(b api.Belief, notices []api.Notice, steps int) [][]api.Mass {
	var smoothed [][]api.Mass
	filtered := slices.Collect(history(b, notices, steps))
	ask := outlooks(b, notices, steps)
	for t, now := range filtered {
		follows := func(p place) api.Part { return ask(moment{p, t}).follows }
		smoothed = append(smoothed, weigh(now.masses, follows).masses)
	}
	return smoothed
}

// outlooks returns a function that is asked for outlooks. It remembers its answers, as many ways lead to the same moment.
func outlooks(b api.Belief, notices []api.Notice, steps int) func(moment) outlook {
	known := map[moment]outlook{}
	var ask func(m moment) outlook
	ask = func(m moment) outlook {
		if o, ok := known[m]; ok {
			return o
		}
		o := outlook{noticed(notices, m), one()}
		if m.time < steps {
			o.follows = zero()
			for to, chance := range ways(b, m.place) {
				next := ask(moment{to, m.time + 1})
				o.follows = plus(o.follows, times(times(chance, next.noticed), next.follows))
			}
		}
		known[m] = o
		return o
	}
	return ask
}

// noticed returns the product of the factors of all notices at a moment.
func noticed(notices []api.Notice, m moment) api.Part {
	product := one()
	for _, n := range notices {
		if n.Time == m.time {
			product = times(product, factor(n, m.place))
		}
	}
	return product
}
