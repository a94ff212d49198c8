package belief

import (
	"iter"

	"cresset/api"
)

// history yields what is believed at each time from 0 to steps, with the chance of all that was noticed so far.
func history(b api.Belief, notices []api.Notice, steps int) iter.Seq[outcome] {
	return func(yield func(outcome) bool) {
		now := outcome{begin(b), one()}
		for t := range steps + 1 {
			if t > 0 {
				now.masses = predict(b, now.masses)
			}
			for _, n := range notices {
				if n.Time == t {
					learned := learn(now.masses, n)
					now = outcome{learned.masses, times(now.chance, learned.chance)}
				}
			}
			if !yield(now) {
				return
			}
		}
	}
}
