package tracks_test

import (
	"cmp"
	"math/rand"
	"slices"
	"testing"

	"cresset/api"
	"cresset/grid"
	"cresset/tracks"
)

// P8.5
func TestOutline(t *testing.T) {
	for _, c := range []struct {
		what    string
		picture []string
		want    []api.Spot // in cells
	}{
		{"the example", []string{"#..", "##."}, track(0, 0, 2, 0, 2, 1, 1, 1, 1, 2, 0, 2, 0, 0)},
		{"a cell", []string{"#"}, track(0, 0, 1, 0, 1, 1, 0, 1, 0, 0)},
		{"a cell amid others", []string{"...", ".#.", "..."}, track(1, 1, 2, 1, 2, 2, 1, 2, 1, 1)},
		{"all", []string{"####", "####"}, track(0, 0, 4, 0, 4, 2, 0, 2, 0, 0)},
		{"the first cell is to the right", []string{"####", "..##"}, track(2, 0, 4, 0, 4, 2, 0, 2, 0, 1, 2, 1, 2, 0)},
		{"two in the first row", []string{"###", "#.#"}, track(0, 0, 1, 0, 1, 1, 2, 1, 2, 0, 3, 0, 3, 2, 0, 2, 0, 0)},
		{"a cross", []string{".#.", "###", ".#."}, track(1, 0, 2, 0, 2, 1, 3, 1, 3, 2, 2, 2, 2, 3, 1, 3, 1, 2, 0, 2, 0, 1, 1, 1, 1, 0)},
		{"a hole", []string{"###", "#.#", "###"}, track(0, 0, 3, 0, 3, 3, 0, 3, 0, 0)},
		{"two holes that share a corner", []string{"####", "##.#", "#.##", "####"}, track(0, 0, 4, 0, 4, 4, 0, 4, 0, 0)},
		{"a hole that is open", []string{"#.#", "#.#", "###"}, track(0, 0, 3, 0, 3, 3, 2, 3, 2, 1, 1, 1, 1, 3, 0, 3, 0, 0)},
		{"a hole that is open at a corner to the upper right", []string{"##.", "#.#", "###"}, track(0, 0, 3, 0, 3, 2, 2, 2, 2, 1, 1, 1, 1, 2, 2, 2, 2, 3, 0, 3, 0, 0)},
		{"at a corner to the upper left", []string{".##", "#.#", "###"}, track(0, 0, 3, 0, 3, 3, 1, 3, 1, 2, 2, 2, 2, 1, 1, 1, 1, 2, 0, 2, 0, 0)},
		{"at a corner to the lower right", []string{"###", "#.#", "##."}, track(0, 0, 2, 0, 2, 1, 1, 1, 1, 2, 2, 2, 2, 1, 3, 1, 3, 3, 0, 3, 0, 0)},
		{"at a corner to the lower left", []string{"###", "#.#", ".##"}, track(1, 0, 3, 0, 3, 3, 0, 3, 0, 1, 1, 1, 1, 2, 2, 2, 2, 1, 1, 1, 1, 0)},
	} {
		g, r := region(c.picture...)
		for _, size := range []int{1, 10, api.MaxCell} {
			g.Size = size
			var want []api.Spot
			for _, s := range c.want {
				want = append(want, spot(s.X*size, s.Y*size))
			}
			if l, e := tracks.Outline(g, r); !slices.Equal(l, want) || e != api.OK {
				t.Errorf("%s: %v, error %v; want %v", c.what, l, e, want)
			}
		}
	}
	g := api.Grid{W: api.MaxWide, H: api.MaxWide, Size: api.MaxCell, Land: []api.Run{{Y: 3, To: 9}}}
	side := api.MaxWide * api.MaxCell
	if l, e := tracks.Outline(g, rows(g, 0, g.H)); !slices.Equal(l, track(0, 0, side, 0, side, side, 0, side, 0, 0)) || e != api.OK {
		t.Errorf("the greatest grid: %v, error %v", l, e)
	}
}

// comb returns a row of teeth above, and below, of so many cells in their middle row: its outline has 1021 spots.
func comb(middle api.Run) (api.Grid, []api.Run) {
	var teeth []api.Run
	for x := 0; x < 255; x += 2 {
		teeth = append(teeth, api.Run{From: x, To: x + 1})
	}
	r := slices.Clone(teeth)
	r = append(r, middle)
	for _, tooth := range teeth {
		r = append(r, api.Run{Y: 2, From: tooth.From, To: tooth.To})
	}
	return api.Grid{W: api.MaxWide, H: 4, Size: 3}, r
}

// P8.5
func TestOutlineRefuses(t *testing.T) {
	check := func(what string, g api.Grid, r []api.Run, spots int, want api.Errno) {
		t.Helper()
		if l, e := tracks.Outline(g, r); len(l) != spots || e != want {
			t.Errorf("%s: %d spots, error %v", what, len(l), e)
		}
	}
	g, r := comb(api.Run{Y: 1, To: 255})
	check("a comb", g, r, 1021, api.OK)
	check("a comb with a hook", g, append(slices.Clone(r), api.Run{Y: 3, From: 254, To: 256}), 1023, api.OK)
	check("a comb with two hooks", g, append(slices.Clone(r), api.Run{Y: 3, From: 0, To: 2}, api.Run{Y: 3, From: 254, To: 256}), 0, api.ErrLong)
	g, r = comb(api.Run{Y: 1, To: 256})
	check("a comb with a longer middle", g, r, 0, api.ErrLong)
	g.H = 6
	check("a long outline of two parts", g, append(slices.Clone(r), api.Run{Y: 5, To: 3}), 0, api.ErrArg)
	check("nothing", g, nil, 0, api.ErrArg)
	check("an empty list", g, []api.Run{}, 0, api.ErrArg)
	check("two parts", g, []api.Run{{To: 1}, {From: 2, To: 3}}, 0, api.ErrArg)
	check("two parts that share a corner", g, []api.Run{{To: 1}, {Y: 1, From: 1, To: 2}}, 0, api.ErrArg)
	for _, r := range [][]api.Run{
		{{Y: -1, To: 1}}, {{Y: 6, To: 1}}, {{From: -1, To: 1}}, {{From: 1, To: 1}}, {{From: 255, To: 257}}, {{To: 1}, {From: 1, To: 2}}, {{Y: 1, To: 1}, {To: 1}},
		{{Y: small, From: small, To: huge}}, {{Y: huge, From: huge, To: small}}, slices.Repeat([]api.Run{{To: 1}}, api.MaxRuns+1),
	} {
		check("no region", g, r, 0, api.ErrArg)
	}
	for _, g := range wrongGrids {
		check("no grid", g, []api.Run{{To: 1}}, 0, api.ErrArg)
		check("no grid, and no region", g, nil, 0, api.ErrArg)
	}
}

// side is a side of a cell, walked so that the cell is on the left.
type side struct{ from, to api.Cell }

// borders returns the sides of a cell behind which there is another one of no set, around the cell.
func (s set) borders(c api.Cell) []side {
	corner := func(x, y int) api.Cell { return api.Cell{X: c.X + x, Y: c.Y + y} }
	var l []side
	for _, b := range []struct {
		beside api.Cell
		side   side
	}{
		{corner(0, -1), side{corner(0, 0), corner(1, 0)}},
		{corner(1, 0), side{corner(1, 0), corner(1, 1)}},
		{corner(0, 1), side{corner(1, 1), corner(0, 1)}},
		{corner(-1, 0), side{corner(0, 1), corner(0, 0)}},
	} {
		if !s[b.beside] {
			l = append(l, b.side)
		}
	}
	return l
}

// outline returns the outline of a part side by side: where two go on, the one of the same cell is to the left.
func (s set) outline(first api.Cell, size int) []api.Spot {
	cellOf, onFrom := map[side]api.Cell{}, map[api.Cell][]side{}
	for c := range s {
		for _, b := range s.borders(c) {
			cellOf[b] = c
			onFrom[b.from] = append(onFrom[b.from], b)
		}
	}
	begin := side{first, api.Cell{X: first.X + 1, Y: first.Y}}
	var l []api.Spot
	for b := begin; ; {
		next := onFrom[b.to][0]
		if l := onFrom[b.to]; len(l) == 2 && cellOf[l[1]] == cellOf[b] {
			next = l[1]
		}
		if next.to.X-next.from.X != b.to.X-b.from.X || next.to.Y-next.from.Y != b.to.Y-b.from.Y {
			l = append(l, spot(b.to.X*size, b.to.Y*size))
		}
		if b = next; b == begin {
			return append([]api.Spot{l[len(l)-1]}, l...)
		}
	}
}

// somePart returns a part of a region of a grid, and its first cell.
func somePart(random *rand.Rand, g api.Grid) (r []api.Run, first api.Cell) {
	for {
		s := set{}
		for _, c := range cellsOf(g) {
			if random.Intn(10) < 6 {
				s[c] = true
			}
		}
		var cells []api.Cell
		for c := range s {
			cells = append(cells, c)
		}
		region, _ := grid.Region(g, cells)
		parts, _ := grid.Parts(g, region)
		longest := func(a, b []api.Run) int { return grid.Count(a) - grid.Count(b) }
		if len(parts) > 0 {
			r = slices.MaxFunc(parts, longest)
			return r, api.Cell{X: r[0].From, Y: r[0].Y}
		}
	}
}

// area returns twice the area of an outline, by the sum over its legs.
func area(l []api.Spot) int {
	sum := 0
	for i := 1; i < len(l); i++ {
		sum += l[i-1].X*l[i].Y - l[i].X*l[i-1].Y
	}
	return sum
}

// filled returns how many cells a set and its holes have: all from which no way of cells of no set, by sides and corners, leads out of the grid.
func (s set) filled(g api.Grid) int {
	outside := set{}
	var next []api.Cell
	reach := func(c api.Cell) {
		if c.X >= -1 && c.X <= g.W && c.Y >= -1 && c.Y <= g.H && !s[c] && !outside[c] {
			outside[c] = true
			next = append(next, c)
		}
	}
	for reach(api.Cell{X: -1, Y: -1}); len(next) > 0; {
		c := next[0]
		next = next[1:]
		for y := -1; y <= 1; y++ {
			for x := -1; x <= 1; x++ {
				reach(api.Cell{X: c.X + x, Y: c.Y + y})
			}
		}
	}
	return (g.W+2)*(g.H+2) - len(outside)
}

// beside returns the cells to the left and to the right of a side of a cell.
func beside(b side) (left, right api.Cell) {
	x, y := min(b.from.X, b.to.X), min(b.from.Y, b.to.Y)
	switch {
	case b.from.X < b.to.X:
		return api.Cell{X: x, Y: y}, api.Cell{X: x, Y: y - 1}
	case b.from.X > b.to.X:
		return api.Cell{X: x, Y: y - 1}, api.Cell{X: x, Y: y}
	case b.from.Y < b.to.Y:
		return api.Cell{X: x - 1, Y: y}, api.Cell{X: x, Y: y}
	}
	return api.Cell{X: x, Y: y}, api.Cell{X: x - 1, Y: y}
}

// checkSides checks what is to the left and to the right of each side of a cell along an outline.
func checkSides(t *testing.T, g api.Grid, s set, l []api.Spot) {
	t.Helper()
	at := api.Cell{X: l[0].X / g.Size, Y: l[0].Y / g.Size}
	for _, to := range l[1:] {
		end := api.Cell{X: to.X / g.Size, Y: to.Y / g.Size}
		for at != end {
			next := api.Cell{X: at.X + cmp.Compare(end.X, at.X), Y: at.Y + cmp.Compare(end.Y, at.Y)}
			if left, right := beside(side{at, next}); !s[left] || s[right] {
				t.Fatalf("the outline %v of %v has %v on its left, and %v on its right", l, s, left, right)
			}
			at = next
		}
	}
}

// P8.5, P8.7
func TestOutlineOfMany(t *testing.T) {
	random := rand.New(rand.NewSource(7))
	for range 4000 {
		g := api.Grid{W: 1 + random.Intn(9), H: 1 + random.Intn(9), Size: 1 + random.Intn(60)}
		r, first := somePart(random, g)
		s := setOf(r)
		l, e := tracks.Outline(g, r)
		if want := s.outline(first, g.Size); !slices.Equal(l, want) || e != api.OK {
			t.Fatalf("%v in %v: %v, error %v; want %v", r, g, l, e, want)
		}
		if e := tracks.CheckTrack(l); e != api.OK {
			t.Fatalf("%v is not valid: %v", l, e)
		}
		checkSides(t, g, s, l)
		if want := 2 * s.filled(g) * g.Size * g.Size; area(l) != want {
			t.Fatalf("%v has twice the area %d, not %d", l, area(l), want)
		}
	}
	for range 30 {
		g := api.Grid{W: 30 + random.Intn(30), H: 30 + random.Intn(30), Size: 7}
		r, first := somePart(random, g)
		want, wantError := setOf(r).outline(first, g.Size), api.OK
		if len(want) > api.MaxTrack {
			want, wantError = nil, api.ErrLong
		}
		if l, e := tracks.Outline(g, r); !slices.Equal(l, want) || e != wantError {
			t.Fatalf("%v in %v: %v, error %v; want %v", r, g, l, e, want)
		}
	}
}
