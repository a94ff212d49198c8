package unit

import (
	"slices"

	"cresset/api"
)

// Assign returns which unit goes to which goal.
func Assign(l []api.Unit, starts []int, goals []api.Spot) (which []int, e api.Errno) {
	switch {
	case len(l) > api.MaxTeam || len(goals) > api.MaxTeam:
		return nil, api.ErrLong
	case !all(l, CheckUnit) || !all(goals, isSpot) || len(starts) != len(l) || !all(starts, isTime) || len(l) < len(goals):
		return nil, api.ErrArg
	}
	return bestChoice(arrivals(l, starts, goals)), api.OK
}

// arrivals returns for each goal when each unit would arrive there.
func arrivals(l []api.Unit, starts []int, goals []api.Spot) [][]int {
	times := make([][]int, len(goals))
	for i, goal := range goals {
		for n, u := range l {
			times[i] = append(times[i], starts[n]+timeOf(u, u.Base, goal))
		}
	}
	return times
}

// bestChoice returns the unit for each goal. As the choices are tried in their order as lists, a later one has to be better than the best one.
func bestChoice(times [][]int) []int {
	var best []int
	var bestLatest, bestSum int
	choice := make([]int, 0, len(times))
	var choose func(latest, sum int)
	choose = func(latest, sum int) {
		goal := len(choice)
		if goal == len(times) {
			if best == nil || latest < bestLatest || latest == bestLatest && sum < bestSum {
				best, bestLatest, bestSum = slices.Clone(choice), latest, sum
			}
			return
		}
		for n, time := range times[goal] {
			if slices.Contains(choice, n) {
				continue
			}
			choice = append(choice, n)
			choose(max(latest, time), sum+time)
			choice = choice[:goal]
		}
	}
	choose(0, 0)
	return best
}
