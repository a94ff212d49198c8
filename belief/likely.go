package belief

import (
	"slices"

	"cresset/api"
	"cresset/grid"
	"cresset/weight"
)

// cells returns the weight of each cell that has a mass.
func cells(l []api.Mass) []api.Share {
	weights := map[api.Cell]api.Part{}
	for _, m := range l {
		add(weights, m.Cell, m.Weight)
	}
	var shares []api.Share
	for c, w := range inOrder(weights, compareCells) {
		shares = append(shares, api.Share{Cell: c, Weight: w})
	}
	return shares
}

// likely returns the region of the fewest cells that have a weight; it panics with ErrNone if all of them have less. It sorts shares. (Rank of layer 1 takes no list as long as one of cells can be.)
func likely(sea api.Grid, shares []api.Share, p api.Part) []api.Run {
	slices.SortStableFunc(shares, func(s, t api.Share) int { return weight.Compare(t.Weight, s.Weight) })
	var chosen []api.Cell
	sum := zero()
	for _, s := range shares {
		if weight.Compare(sum, p) >= 0 {
			break
		}
		if s.Cell != gone() {
			chosen, sum = append(chosen, s.Cell), plus(sum, s.Weight)
		}
	}
	if weight.Compare(sum, p) < 0 {
		panic(api.ErrNone)
	}
	return must(grid.Region(sea, chosen))
}
