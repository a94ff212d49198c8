package grid

import "cresset/api"

// All returns all cells.
func All(g api.Grid) ([]api.Run, api.Errno) {
	if e := CheckGrid(g); e != api.OK {
		return nil, e
	}
	return whole(g), api.OK
}

// Sea returns all cells that are not land.
func Sea(g api.Grid) ([]api.Run, api.Errno) {
	if e := CheckGrid(g); e != api.OK {
		return nil, e
	}
	return mergeRegions(g, whole(g), g.Land, without)
}

// Either returns the cells of one of two regions.
func Either(g api.Grid, a, b []api.Run) ([]api.Run, api.Errno) {
	return mergeRegions(g, a, b, either)
}

// Both returns the cells of both regions.
func Both(g api.Grid, a, b []api.Run) ([]api.Run, api.Errno) {
	return mergeRegions(g, a, b, both)
}

// Without returns the cells of a region that another one has not.
func Without(g api.Grid, a, b []api.Run) ([]api.Run, api.Errno) {
	return mergeRegions(g, a, b, without)
}

// mergeRegions returns what join makes of two regions, word by word of their rows.
func mergeRegions(g api.Grid, a, b []api.Run, join func(x, y uint64) uint64) ([]api.Run, api.Errno) {
	if CheckRegion(g, a) != api.OK || !isRegion(g, b) {
		return nil, api.ErrArg
	}
	s := rowsOf(a)
	s.merge(rowsOf(b), join)
	return s.runs()
}
