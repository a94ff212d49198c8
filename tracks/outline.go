package tracks

import (
	"cresset/api"
	"cresset/grid"
)

// ahead is, for each of the directions, the cell ahead to the left of a corner, seen from the cell whose lower left corner it is. The cell ahead to the right is the one of the direction to the right.
var ahead = [4][2]int{{0, 0}, {-1, 0}, {-1, -1}, {0, -1}}

// corner is a corner of cells, by the cell whose lower left one it is, and a direction in which it is passed.
type corner struct {
	at  api.Cell
	way int
}

// Outline returns the outer border of a region.
func Outline(g api.Grid, r []api.Run) ([]api.Spot, api.Errno) {
	cells, e := grid.Cells(g, r)
	if e != api.OK {
		return nil, e
	}
	if parts, _ := grid.Parts(g, r); len(parts) != 1 {
		return nil, api.ErrArg
	}
	l := walk(g.Size, cells)
	if len(l) > api.MaxTrack {
		return nil, api.ErrLong
	}
	return l, api.OK
}

// walk returns the outline of cells of one part, given from the first one on. No other cell has the first one's lower left corner, so that it is not passed before the end.
func walk(size int, cells []api.Cell) []api.Spot {
	region := map[api.Cell]bool{}
	for _, c := range cells {
		region[c] = true
	}
	first := cells[0]
	l := []api.Spot{spotOf(first, size)}
	c := corner{at: first}
outline:
	for {
		c.at = shifted(c.at, directions[c.way])
		switch {
		case c.at == first:
			break outline
		case !region[c.left()]:
			c = c.turned(1)
		case region[c.right()]:
			c = c.turned(-1)
		default:
			continue
		}
		l = append(l, spotOf(c.at, size))
	}
	return append(l, l[0])
}

// turned returns the corner with a direction that is so many turns to the left.
func (c corner) turned(left int) corner {
	return corner{c.at, (c.way + left + len(directions)) % len(directions)}
}

// left returns the cell ahead to the left.
func (c corner) left() api.Cell {
	return shifted(c.at, ahead[c.way])
}

// right returns the cell ahead to the right.
func (c corner) right() api.Cell {
	return c.turned(-1).left()
}

func shifted(c api.Cell, move [2]int) api.Cell {
	return api.Cell{X: c.X + move[0], Y: c.Y + move[1]}
}

func spotOf(c api.Cell, size int) api.Spot {
	return api.Spot{X: c.X * size, Y: c.Y * size}
}
