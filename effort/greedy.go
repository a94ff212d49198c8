package effort

import (
	"iter"
	"slices"

	"cresset/api"
	"cresset/weight"
)

// choice is a team that can be at a site for one more hour, and what it gains there.
type choice struct {
	team, site int
	gain       api.Part
}

func compareGains(c, d choice) int {
	return weight.Compare(c.gain, d.gain)
}

// choices yields the choices of the teams that have hours left, by the team, then by the site.
func (a *allocation) choices(left []int) iter.Seq[choice] {
	return func(yield func(choice) bool) {
		for team, rates := range a.task.Rates {
			for site, rate := range rates {
				if left[team] > 0 && rate != zero() && !yield(choice{team, site, a.gain(team, site)}) {
					return
				}
			}
		}
	}
}

// fill puts the hours of the plan of zeros, one by one, where each gains most, as long as one gains something.
func (a *allocation) fill() {
	left := slices.Clone(a.task.Hours)
	for {
		best, ok := greatest(a.choices(left), compareGains)
		if !ok || best.gain == zero() {
			return
		}
		a.posts[best.site] = a.posts[best.site].with(best.team, 1)
		left[best.team]--
	}
}

// greatest returns the first one of the greatest elements, and whether there is one.
func greatest[T any](l iter.Seq[T], compare func(a, b T) int) (best T, ok bool) {
	for next := range l {
		if !ok || compare(next, best) > 0 {
			best, ok = next, true
		}
	}
	return best, ok
}
