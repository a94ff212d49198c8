package effort

import (
	"iter"
	"slices"

	"cresset/weight"
)

// move is an hour of a team that goes from a site to another one.
type move struct{ team, from, to int }

// moves yields the moves that the plan allows, by the team, then by the site from which, then by the site to which the hour goes.
func (a *allocation) moves() iter.Seq[move] {
	return func(yield func(move) bool) {
		for team, rates := range a.task.Rates {
			for from := range rates {
				if a.posts[from].hours[team] == 0 {
					continue
				}
				for to, rate := range rates {
					if to != from && rate != zero() && !yield(move{team, from, to}) {
						return
					}
				}
			}
		}
	}
}

// after returns the posts of a move's two sites after it.
func (a *allocation) after(m move) (from, to post) {
	return a.posts[m.from].with(m.team, -1), a.posts[m.to].with(m.team, 1)
}

// improve makes at most so many moves, each of them the first one that makes the plan better, and returns how many it made.
func (a *allocation) improve(rounds int) int {
	moves := 0
	for moves < rounds && a.improveOnce() {
		moves++
	}
	return moves
}

// improveOnce makes the first move that makes the plan better, and reports whether there is one.
func (a *allocation) improveOnce() bool {
	found := a.finds()
	value := total(found)
	for m := range a.moves() {
		from, to := a.after(m)
		changed := slices.Clone(found)
		changed[m.from], changed[m.to] = a.find(from), a.find(to)
		if weight.Compare(total(changed), value) > 0 {
			a.posts[m.from], a.posts[m.to] = from, to
			return true
		}
	}
	return false
}
