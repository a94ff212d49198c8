package effort

import (
	"slices"

	"cresset/api"
	"cresset/detect"
	"cresset/weight"
)

// prices returns the price of each team's hour.
func (a *allocation) prices() []api.Part {
	worths := each(a.used(), a.worth)
	var prices []api.Part
	for _, rates := range a.task.Rates {
		var hours []api.Part
		for site, rate := range rates {
			hours = append(hours, times(worths[site], rate))
		}
		prices = append(prices, slices.MaxFunc(hours, weight.Compare))
	}
	return prices
}

// worth returns the weight of a post's site times the slope at its coverage: what more coverage brings there, per coverage.
func (a *allocation) worth(p post) api.Part {
	site := a.task.Sites[p.site]
	return times(site.Weight, fitting(detect.Slope(site.Curve, a.cover(p))))
}

// bound returns the bound of prices.
func bound(t api.Effort, prices []api.Part) api.Part {
	var parts []api.Part
	for team, price := range prices {
		parts = append(parts, times(price, whole(t.Hours[team])))
	}
	for site := range t.Sites {
		parts = append(parts, surplus(t, prices, site))
	}
	return total(parts)
}

// surplus returns the surplus of a site.
func surplus(t api.Effort, prices []api.Part, site int) api.Part {
	var costs []api.Part
	for team, price := range prices {
		if rate := t.Rates[team][site]; rate != zero() {
			costs = append(costs, fitting(weight.Div(price, rate)))
		}
	}
	if costs == nil {
		return zero()
	}
	cost := slices.MinFunc(costs, weight.Compare)
	var profits []api.Part
	for _, b := range t.Sites[site].Curve {
		profits = append(profits, excess(times(t.Sites[site].Weight, b.Chance), times(cost, b.Cover)))
	}
	return slices.MaxFunc(profits, weight.Compare)
}

// excess returns how far a is above b, and 0 if it is not.
func excess(a, b api.Part) api.Part {
	if weight.Compare(a, b) <= 0 {
		return zero()
	}
	return minus(a, b)
}
