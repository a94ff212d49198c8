package drift

import (
	"iter"

	"cresset/api"
)

// box is all cells from one column to below another one, and from one row to below another one.
type box struct{ fromX, toX, fromY, toY int }

// reach is by how many cells a push leads: from the lowest place of a cell, and from its highest one.
type reach struct{ low, high api.Cell }

// reachOf returns the reach of a push.
func reachOf(g api.Grid, p api.Push) reach {
	return reach{
		low:  api.Cell{X: floor(p.Low.X, g.Size), Y: floor(p.Low.Y, g.Size)},
		high: api.Cell{X: ceiling(p.High.X, g.Size), Y: ceiling(p.High.Y, g.Size)},
	}
}

// of returns where a reach leads to from the cells of a run, on the grid and off it.
func (r reach) of(run api.Run) box {
	return box{fromX: run.From + r.low.X, toX: run.To + r.high.X, fromY: run.Y + r.low.Y, toY: run.Y + r.high.Y + 1}
}

// on returns what of a box is on a grid.
func (b box) on(g api.Grid) box {
	return box{
		fromX: min(max(b.fromX, 0), g.W), toX: min(max(b.toX, 0), g.W),
		fromY: min(max(b.fromY, 0), g.H), toY: min(max(b.toY, 0), g.H),
	}
}

// counts has a number for each cell of a grid, and for those of one more column and row, so that each box on the grid has its corners in it.
type counts struct {
	wide int
	n    []int
}

func newCounts(g api.Grid) counts {
	return counts{wide: g.W + 1, n: make([]int, (g.W+1)*(g.H+1))}
}

// at returns the number of column x in row y.
func (t counts) at(x, y int) *int {
	return &t.n[y*t.wide+x]
}

// sums returns, in place of each number, the sum of all that are neither in a later column nor in a later row.
func (t counts) sums() counts {
	s := counts{wide: t.wide, n: make([]int, len(t.n))}
	var row int
	for i, n := range t.n {
		if i%t.wide == 0 {
			row = 0
		}
		row += n
		s.n[i] = row
		if i >= t.wide {
			s.n[i] += s.n[i-t.wide]
		}
	}
	return s
}

// add changes the corners of a box so that the sums count it at each of its cells.
func (t counts) add(b box) {
	*t.at(b.fromX, b.fromY)++
	*t.at(b.toX, b.fromY)--
	*t.at(b.fromX, b.toY)--
	*t.at(b.toX, b.toY)++
}

// has reports whether a box has a cell, if t is the sums of the corners of boxes.
func (t counts) has(c api.Cell) bool {
	return *t.at(c.X, c.Y) > 0
}

// meets reports whether a box has one of some cells, if t is what earlier returns for them.
func (t counts) meets(b box) bool {
	return *t.at(b.toX, b.toY)-*t.at(b.fromX, b.toY)-*t.at(b.toX, b.fromY)+*t.at(b.fromX, b.fromY) > 0
}

// covered returns the sums that count, at each cell, the regions that have it.
func covered(g api.Grid, regions ...[]api.Run) counts {
	t := newCounts(g)
	for _, r := range regions {
		for _, run := range r {
			t.add(box{fromX: run.From, toX: run.To, fromY: run.Y, toY: run.Y + 1})
		}
	}
	return t.sums()
}

// earlier returns the sums that count, at each corner, the cells of regions in earlier columns and rows.
func earlier(g api.Grid, regions ...[]api.Run) counts {
	t := newCounts(g)
	for _, r := range regions {
		for c := range cells(r) {
			*t.at(c.X+1, c.Y+1)++
		}
	}
	return t.sums()
}

// cells yields the cells of a region.
func cells(r []api.Run) iter.Seq[api.Cell] {
	return func(yield func(api.Cell) bool) {
		for _, run := range r {
			for x := run.From; x < run.To; x++ {
				if !yield(api.Cell{X: x, Y: run.Y}) {
					return
				}
			}
		}
	}
}
