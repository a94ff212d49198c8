package tracks_test

import (
	"math/big"
	"math/rand"
	"slices"
	"testing"

	"cresset/api"
	"cresset/grid"
	"cresset/tracks"
)

const (
	place = api.MaxPlace
	huge  = 1 << 62
	small = -1 << 63
)

func spot(x, y int) api.Spot {
	return api.Spot{X: x, Y: y}
}

// track returns the spots with these numbers, two for each.
func track(numbers ...int) []api.Spot {
	var l []api.Spot
	for pair := range slices.Chunk(numbers, 2) {
		l = append(l, spot(pair[0], pair[1]))
	}
	return l
}

// wrongSpots are not valid.
var wrongSpots = []api.Spot{
	{X: place + 1}, {X: -place - 1}, {Y: place + 1}, {Y: -place - 1}, {X: huge}, {X: small}, {Y: huge}, {Y: small}, {X: small, Y: small},
}

// zigzag returns a track of so many spots, along x and back.
func zigzag(spots, x int) []api.Spot {
	var l []api.Spot
	for i := range spots {
		l = append(l, spot(i%2*x, 0))
	}
	return l
}

// wrongTracks are not valid.
func wrongTracks() [][]api.Spot {
	l := [][]api.Spot{
		nil,
		{},
		{{}},
		track(5, 5),
		track(0, 0, 0, 0),
		track(0, 0, 4, 0, 4, 0),
		track(3, 3, 3, 3, 4, 4),
		track(0, 0, 1, 2),
		track(0, 0, 2, 1),
		track(0, 0, -1, 2),
		track(0, 0, 2, -1),
		track(0, 0, -3, -2),
		track(0, 0, 5, 5, 9, 8),
		track(0, 0, 1, 0, 1, 1, 2, 3, 2, 4),
		track(-place, -place, place, place-1),
		track(0, 0, small, small),
		track(huge, 0, -huge, 0),
		track(small, small, small, 0),
		zigzag(api.MaxTrack+1, 1),
		zigzag(5000, 7),
	}
	for _, s := range wrongSpots {
		l = append(l, []api.Spot{s, {}}, []api.Spot{{}, s}, []api.Spot{s, {X: s.X, Y: 3}}, []api.Spot{{X: 3, Y: s.Y}, s}, []api.Spot{{}, {X: 1}, s})
	}
	return l
}

// rightTracks are valid.
func rightTracks() [][]api.Spot {
	return [][]api.Spot{
		track(0, 0, 1, 0),
		track(0, 0, -1, 0),
		track(0, 0, 0, 1),
		track(0, 0, 0, -1),
		track(0, 0, 1, 1),
		track(0, 0, 1, -1),
		track(0, 0, -1, 1),
		track(0, 0, -1, -1),
		track(7, -2, 9, -2, 7, -2, 9, -2),
		track(0, 0, 3, 0, 5, 2),
		track(-place, -place, place, place),
		track(place, -place, -place, place, -place, -place, place, -place, place, place),
		zigzag(api.MaxTrack-1, 2),
		zigzag(api.MaxTrack, 1),
	}
}

// someTrack returns a track near the box from (0, 0) to (size, size).
func someTrack(random *rand.Rand, size int) []api.Spot {
	for {
		l := []api.Spot{spot(random.Intn(size+1), random.Intn(size+1))}
		for range 1 + random.Intn(4) {
			n, last := 1+random.Intn(size+1), l[len(l)-1]
			x, y := random.Intn(3)-1, random.Intn(3)-1
			l = append(l, spot(last.X+n*x, last.Y+n*y))
		}
		if tracks.CheckTrack(l) == api.OK {
			return l
		}
	}
}

// backwards returns a track that is walked backwards.
func backwards(l []api.Spot) []api.Spot {
	l = slices.Clone(l)
	slices.Reverse(l)
	return l
}

// isNear reports whether a spot is within a width of one of the real places between two others, by the place of the line that is opposite of it.
func isNear(from, to, s api.Spot, width int) bool {
	number := func(n int) *big.Rat { return new(big.Rat).SetInt64(int64(n)) }
	plus := func(a, b *big.Rat) *big.Rat { return new(big.Rat).Add(a, b) }
	minus := func(a, b *big.Rat) *big.Rat { return new(big.Rat).Sub(a, b) }
	times := func(a, b *big.Rat) *big.Rat { return new(big.Rat).Mul(a, b) }
	u, v := number(to.X-from.X), number(to.Y-from.Y)
	x, y := number(s.X-from.X), number(s.Y-from.Y)
	part := new(big.Rat).Quo(plus(times(u, x), times(v, y)), plus(times(u, u), times(v, v)))
	if part.Sign() < 0 {
		part = number(0)
	} else if part.Cmp(number(1)) > 0 {
		part = number(1)
	}
	x, y = minus(x, times(part, u)), minus(y, times(part, v))
	return plus(times(x, x), times(y, y)).Cmp(times(number(width), number(width))) <= 0
}

// isNearTrack reports whether a spot is within a width of a leg.
func isNearTrack(l []api.Spot, s api.Spot, width int) bool {
	for i := 1; i < len(l); i++ {
		if isNear(l[i-1], l[i], s, width) {
			return true
		}
	}
	return false
}

// near returns what Near answers, without an error.
func near(t *testing.T, l []api.Spot, s api.Spot, width int) bool {
	t.Helper()
	ok, e := tracks.Near(l, s, width)
	if e != api.OK {
		t.Fatalf("Near of %v: error %v", l, e)
	}
	return ok
}

// set is the cells of a region, each on its own.
type set map[api.Cell]bool

func setOf(r []api.Run) set {
	s := set{}
	for _, run := range r {
		for x := run.From; x < run.To; x++ {
			s[api.Cell{X: x, Y: run.Y}] = true
		}
	}
	return s
}

// regionOf returns the region of the cells of a set.
func regionOf(t *testing.T, g api.Grid, s set) []api.Run {
	t.Helper()
	var l []api.Cell
	for c := range s {
		l = append(l, c)
	}
	r, e := grid.Region(g, l)
	if e != api.OK {
		t.Fatalf("no region: error %v", e)
	}
	return r
}

// cellsOf returns all cells of a grid.
func cellsOf(g api.Grid) []api.Cell {
	var l []api.Cell
	for y := range g.H {
		for x := range g.W {
			l = append(l, api.Cell{X: x, Y: y})
		}
	}
	return l
}

// places returns all places of a cell.
func places(g api.Grid, c api.Cell) []api.Spot {
	var l []api.Spot
	for y := range g.Size {
		for x := range g.Size {
			l = append(l, spot(c.X*g.Size+x, c.Y*g.Size+y))
		}
	}
	return l
}

// ends returns the four outermost places of a cell.
func ends(g api.Grid, c api.Cell) []api.Spot {
	low, high := spot(c.X*g.Size, c.Y*g.Size), spot(c.X*g.Size+g.Size-1, c.Y*g.Size+g.Size-1)
	return []api.Spot{low, {X: high.X, Y: low.Y}, {X: low.X, Y: high.Y}, high}
}

// rows returns whole rows of a grid, from one to below another one.
func rows(g api.Grid, from, to int) []api.Run {
	var l []api.Run
	for y := from; y < to; y++ {
		l = append(l, api.Run{Y: y, To: g.W})
	}
	return l
}

// region returns the cells that a picture has, whose first line is the highest row.
func region(lines ...string) (g api.Grid, r []api.Run) {
	g = api.Grid{W: len(lines[0]), H: len(lines), Size: 10}
	slices.Reverse(lines)
	for y, line := range lines {
		for x := range line {
			switch {
			case line[x] != '#':
			case x > 0 && line[x-1] == '#':
				r[len(r)-1].To++
			default:
				r = append(r, api.Run{Y: y, From: x, To: x + 1})
			}
		}
	}
	return g, r
}

// wrongGrids are not valid.
var wrongGrids = []api.Grid{
	{}, {W: 0, H: 3, Size: 10}, {W: 3, H: -1, Size: 10}, {W: 3, H: 3, Size: 0}, {W: api.MaxWide + 1, H: 3, Size: 10}, {W: 3, H: api.MaxWide + 1, Size: 10},
	{W: 3, H: 3, Size: api.MaxCell + 1}, {W: huge, H: small, Size: huge}, {W: 3, H: 3, Size: 10, Land: []api.Run{{Y: 3, To: 1}}}, {W: 3, H: 3, Size: 10, Land: []api.Run{{From: 1, To: 1}}},
}

// isRefused reports whether a track was refused with an error, and nothing came beside it.
func isRefused(l []api.Spot, e, want api.Errno) bool {
	return len(l) == 0 && e == want
}
