package effort

import (
	"cresset/api"
	"cresset/detect"
)

// isTask reports whether a task is valid.
func isTask(t api.Effort) bool {
	sites, teams := len(t.Sites), len(t.Hours)
	isRow := func(rates []api.Part) bool { return len(rates) == sites && all(rates, isTiny) }
	return isBetween(1, sites, api.MaxSites) && isBetween(1, teams, api.MaxTeams) && len(t.Rates) == teams &&
		all(t.Sites, isSite) && all(t.Hours, isHours) && all(t.Rates, isRow)
}

func isSite(s api.Site) bool {
	return isTiny(s.Weight) && detect.CheckCurve(s.Curve) == api.OK
}

func isTiny(p api.Part) bool {
	return isPart(p, api.MaxTiny)
}

func isHours(n int) bool {
	return isBetween(0, n, api.MaxHours)
}

// isPlan reports whether a plan is valid for a valid task.
func isPlan(t api.Effort, plan [][]int) bool {
	if len(plan) != len(t.Hours) {
		return false
	}
	for team, hours := range plan {
		if !canDo(t.Rates[team], t.Hours[team], hours) {
			return false
		}
	}
	return true
}

// canDo reports whether a team with some rates, which has so many hours, can be at the sites for hours of a plan.
func canDo(rates []api.Part, has int, hours []int) bool {
	if len(hours) != len(rates) {
		return false
	}
	sum := 0
	for site, n := range hours {
		if !isHours(n) || n > 0 && rates[site] == zero() {
			return false
		}
		sum += n
	}
	return sum <= has
}

// arePrices reports whether there is a price for each team of a valid task.
func arePrices(t api.Effort, prices []api.Part) bool {
	isPrice := func(p api.Part) bool { return isPart(p, api.MaxDeep) }
	return len(prices) == len(t.Hours) && all(prices, isPrice)
}

// all reports whether a condition holds for all elements.
func all[T any](l []T, holds func(T) bool) bool {
	for _, next := range l {
		if !holds(next) {
			return false
		}
	}
	return true
}

func isBetween(low, n, high int) bool {
	return low <= n && n <= high
}
