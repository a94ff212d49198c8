package grid

import "cresset/api"

// Parts returns the connected parts of a region.
func Parts(g api.Grid, r []api.Run) ([][]api.Run, api.Errno) {
	if e := CheckRegion(g, r); e != api.OK {
		return nil, e
	}
	runs := runsOfCells(r)
	part := make([]int, len(r)) // of each run, from 1 on: 0 where none is known yet
	var spread func(i, n int)
	spread = func(i, n int) {
		if part[i] != 0 {
			return
		}
		part[i] = n
		for c := range cells(r[i : i+1]) {
			for _, y := range [...]int{c.Y - 1, c.Y + 1} {
				if next, ok := runs[api.Cell{X: c.X, Y: y}]; ok {
					spread(next, n)
				}
			}
		}
	}
	var l [][]api.Run
	for i, run := range r {
		if part[i] == 0 { // its first cell is the first one of a part
			l = append(l, nil)
			spread(i, len(l))
		}
		l[part[i]-1] = append(l[part[i]-1], run)
	}
	return l, api.OK
}

// runsOfCells returns in which run each cell of a region is. Cells of one run are connected, so that parts can be found run by run.
func runsOfCells(r []api.Run) map[api.Cell]int {
	runs := make(map[api.Cell]int, Count(r))
	for i := range r {
		for c := range cells(r[i : i+1]) {
			runs[c] = i
		}
	}
	return runs
}

// Draw returns a picture of a region.
func Draw(g api.Grid, r []api.Run) string {
	if CheckRegion(g, r) != api.OK {
		return ""
	}
	region, land := rowsOf(r), rowsOf(g.Land)
	picture := make([]byte, 0, g.H*(g.W+1))
	for y := g.H - 1; y >= 0; y-- {
		for x := range g.W {
			picture = append(picture, mark(region[y].has(x), land[y].has(x)))
		}
		picture = append(picture, '\n')
	}
	return string(picture)
}

// mark returns the byte of a cell.
func mark(inRegion, isLand bool) byte {
	switch {
	case inRegion && isLand:
		return '@'
	case inRegion:
		return '#'
	case isLand:
		return '^'
	}
	return '.'
}
