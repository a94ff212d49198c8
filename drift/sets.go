package drift

import (
	"cresset/api"
	"cresset/grid"
)

// regions is Left, Right and Beached of a patch.
type regions [3][]api.Run

func regionsOf(p api.Patch) regions {
	return regions{p.Left, p.Right, p.Beached}
}

// patchOf returns a patch with the regions that a function returns for each part, or the first error of these.
func patchOf(time int, off bool, region func(part int) ([]api.Run, api.Errno)) (api.Patch, api.Errno) {
	var r regions
	for part := range r {
		var e api.Errno
		if r[part], e = region(part); e != api.OK {
			return api.Patch{}, e
		}
	}
	return api.Patch{Time: time, Left: r[0], Right: r[1], Beached: r[2], Off: off}, api.OK
}

// merger makes one region of two.
type merger func(g api.Grid, a, b []api.Run) ([]api.Run, api.Errno)

// merged returns a patch of what merge makes of the regions of two, region by region.
func merged(g api.Grid, p api.Patch, off bool, other regions, merge merger) (api.Patch, api.Errno) {
	own := regionsOf(p)
	return patchOf(p.Time, off, func(part int) ([]api.Run, api.Errno) {
		return merge(g, own[part], other[part])
	})
}

// Where returns all cells of a patch.
func Where(g api.Grid, p api.Patch) ([]api.Run, api.Errno) {
	if e := CheckPatch(g, p); e != api.OK {
		return nil, e
	}
	// Two of the regions may be too long together, where all three are not.
	all := covered(g, p.Left, p.Right, p.Beached)
	return chosen(g, all.has)
}

// Within returns what of a patch is in a region.
func Within(g api.Grid, p api.Patch, r []api.Run) (api.Patch, api.Errno) {
	return cut(g, p, r, grid.Both)
}

// Except returns what of a patch is not in a region.
func Except(g api.Grid, p api.Patch, r []api.Run) (api.Patch, api.Errno) {
	return cut(g, p, r, grid.Without)
}

// cut returns a patch of what merge makes of each region of one and of r.
func cut(g api.Grid, p api.Patch, r []api.Run, merge merger) (api.Patch, api.Errno) {
	if CheckPatch(g, p) != api.OK || grid.CheckRegion(g, r) != api.OK {
		return api.Patch{}, api.ErrArg
	}
	return merged(g, p, p.Off, regions{r, r, r}, merge)
}

// Join returns what is in one of two patches.
func Join(g api.Grid, a, b api.Patch) (api.Patch, api.Errno) {
	if !isPair(g, a, b) {
		return api.Patch{}, api.ErrArg
	}
	return merged(g, a, a.Off || b.Off, regionsOf(b), grid.Either)
}

// Meet returns what is in both patches.
func Meet(g api.Grid, a, b api.Patch) (api.Patch, api.Errno) {
	if !isPair(g, a, b) {
		return api.Patch{}, api.ErrArg
	}
	p, e := merged(g, a, a.Off && b.Off, regionsOf(b), grid.Both)
	if e == api.OK && len(p.Left)+len(p.Right)+len(p.Beached) == 0 {
		return api.Patch{}, api.ErrNone
	}
	return p, e
}

// isPair reports whether two patches are valid, and have the same time.
func isPair(g api.Grid, a, b api.Patch) bool {
	return CheckPatch(g, a) == api.OK && CheckPatch(g, b) == api.OK && a.Time == b.Time
}

// chosen returns the region of the cells for which a condition holds, ErrLong if there is none.
func chosen(g api.Grid, holds func(c api.Cell) bool) ([]api.Run, api.Errno) {
	all, e := grid.All(g)
	if e != api.OK {
		return nil, e
	}
	var l []api.Run
	for c := range cells(all) {
		switch last := len(l) - 1; {
		case !holds(c):
		case last >= 0 && l[last].Y == c.Y && l[last].To == c.X:
			l[last].To++
		default:
			l = append(l, api.Run{Y: c.Y, From: c.X, To: c.X + 1})
		}
	}
	if len(l) > api.MaxRuns {
		return nil, api.ErrLong
	}
	return l, api.OK
}
