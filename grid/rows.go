package grid

import (
	"math/bits"

	"cresset/api"
)

// wordSize is the number of bits of a row's word.
const wordSize = 64

// row is the cells of a row: the cell x is the bit x%wordSize of the word x/wordSize.
type row [api.MaxWide / wordSize]uint64

// rows is a set of cells. Sets are merged, and grow, in this form; runs are what they are given and handed out as.
type rows [api.MaxWide]row

// rowsOf returns the cells of a region.
func rowsOf(r []api.Run) *rows {
	var s rows
	for _, run := range r {
		s[run.Y].fill(run.From, run.To)
	}
	return &s
}

// choose returns the cells of a grid for which a condition holds.
func choose(g api.Grid, holds func(c api.Cell) bool) *rows {
	var s rows
	for c := range cells(whole(g)) {
		if holds(c) {
			s[c.Y].fill(c.X, c.X+1)
		}
	}
	return &s
}

// whole returns all cells of a grid.
func whole(g api.Grid) []api.Run {
	var l []api.Run
	for y := range g.H {
		l = append(l, api.Run{Y: y, To: g.W})
	}
	return l
}

// runs returns the region that has the cells, ErrLong if there is none.
func (s *rows) runs() ([]api.Run, api.Errno) {
	var l []api.Run
	for y := range s {
		for x := s[y].next(0, true); x < api.MaxWide; {
			to := s[y].next(x, false)
			l = append(l, api.Run{Y: y, From: x, To: to})
			x = s[y].next(to, true)
		}
	}
	if len(l) > api.MaxRuns {
		return nil, api.ErrLong
	}
	return l, api.OK
}

// fill adds the cells from one to below another one.
func (r *row) fill(from, to int) {
	for w := range r {
		low, high := max(from-w*wordSize, 0), min(to-w*wordSize, wordSize)
		if low < high {
			r[w] |= (1<<(high-low) - 1) << low
		}
	}
}

// has reports whether the row has a cell.
func (r *row) has(x int) bool {
	return r[x/wordSize]>>(x%wordSize)&1 == 1
}

// next returns the first cell from x on that is in the row, or that is not, and MaxWide if there is none.
func (r *row) next(x int, in bool) int {
	for x < api.MaxWide {
		word := r[x/wordSize]
		if !in {
			word = ^word
		}
		if word >>= x % wordSize; word != 0 {
			return x + bits.TrailingZeros64(word)
		}
		x += wordSize - x%wordSize
	}
	return api.MaxWide
}

// merge puts into each element what join makes of it and of another one.
func merge[T any](into, from []T, join func(x, y T) T) {
	for i, y := range from {
		into[i] = join(into[i], y)
	}
}

// merge puts into each row what join makes of its words and of those of another one.
func (s *rows) merge(from *rows, join func(x, y uint64) uint64) {
	merge(s[:], from[:], func(x, y row) row {
		merge(x[:], y[:], join)
		return x
	})
}

func either(x, y uint64) uint64 {
	return x | y
}

func both(x, y uint64) uint64 {
	return x & y
}

func without(x, y uint64) uint64 {
	return x &^ y
}
