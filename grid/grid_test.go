package grid_test

import (
	"math/rand"
	"slices"
	"testing"

	"cresset/api"
	"cresset/grid"
)

// wrongGrids are not valid.
func wrongGrids() []api.Grid {
	var l []api.Grid
	for _, change := range []func(g *api.Grid){
		func(g *api.Grid) { *g = api.Grid{} },
		func(g *api.Grid) { *g = api.Grid{H: 3, Size: 10} },
		func(g *api.Grid) { *g = api.Grid{W: 4, Size: 10} },
		func(g *api.Grid) { *g = api.Grid{W: 4, H: 3} },
		func(g *api.Grid) { g.W = 0 },
		func(g *api.Grid) { g.W = -1 },
		func(g *api.Grid) { g.W = api.MaxWide + 1 },
		func(g *api.Grid) { g.W = big },
		func(g *api.Grid) { g.H = 0 },
		func(g *api.Grid) { g.H = small },
		func(g *api.Grid) { g.H = api.MaxWide + 1 },
		func(g *api.Grid) { g.Size = 0 },
		func(g *api.Grid) { g.Size = -10 },
		func(g *api.Grid) { g.Size = api.MaxCell + 1 },
		func(g *api.Grid) { g.Land[0].From = -1 },
		func(g *api.Grid) { g.Land[0].To = 5 },
		func(g *api.Grid) { g.Land[0].Y = 3 },
		func(g *api.Grid) { g.Land = append(g.Land, api.Run{From: 2, To: 3}) },
	} {
		g := example()
		change(&g)
		l = append(l, g)
	}
	return l
}

// wrongRegions are no regions of the grid of the examples.
var wrongRegions = [][]api.Run{
	{{Y: -1, From: 0, To: 1}},
	{{Y: 3, From: 0, To: 1}},
	{{Y: small, From: 0, To: 1}},
	{{Y: 0, From: -1, To: 1}},
	{{Y: 0, From: 1, To: 1}},
	{{Y: 0, From: 2, To: 1}},
	{{Y: 0, From: 3, To: 5}},
	{{Y: 0, From: 4, To: 4}},
	{{Y: 0, From: 4, To: 5}},
	{{Y: 0, From: 0, To: big}},
	{{Y: 0, From: small, To: 2}},
	{{Y: 0, From: 0, To: 1}, {Y: 0, From: 0, To: 1}},
	{{Y: 0, From: 0, To: 1}, {Y: 0, From: 1, To: 2}},
	{{Y: 0, From: 0, To: 3}, {Y: 0, From: 1, To: 2}},
	{{Y: 0, From: 2, To: 3}, {Y: 0, From: 0, To: 1}},
	{{Y: 1, From: 0, To: 1}, {Y: 0, From: 2, To: 3}},
	{{Y: 0, From: 0, To: 1}, {Y: 1, From: 0, To: 1}, {Y: 0, From: 2, To: 3}},
	{{Y: 0, From: 0, To: 1}, {Y: 2, From: 0, To: 1}, {Y: 1, From: 2, To: 3}},
	{{Y: 0, From: 0, To: 1}, {Y: 3, From: 0, To: 1}},
}

// P3.1
func TestCheckGrid(t *testing.T) {
	longest := widest()
	longest.Land = comb(64, 1, 0)
	for i, g := range []api.Grid{
		example(), widest(), longest, {W: 1, H: 1, Size: 1}, {W: 1, H: 1, Size: 1, Land: cell(0, 0)}, {W: 4, H: 3, Size: 10, Land: []api.Run{}},
	} {
		if e := grid.CheckGrid(g); e != api.OK {
			t.Errorf("grid %d: %v", i, e)
		}
	}
	longest.Land = append(longest.Land, api.Run{Y: 64, To: 1})
	for i, g := range append(wrongGrids(), longest) {
		if e := grid.CheckGrid(g); e != api.ErrArg {
			t.Errorf("wrong grid %d: %v", i, e)
		}
	}
}

// P3.1
func TestCheckRegion(t *testing.T) {
	for i, r := range [][]api.Run{
		nil, {}, {{Y: 0, From: 0, To: 4}}, {{Y: 2, From: 3, To: 4}}, {{Y: 0, From: 0, To: 1}, {Y: 0, From: 2, To: 4}},
		{{Y: 0, From: 0, To: 4}, {Y: 1, From: 0, To: 4}, {Y: 2, From: 0, To: 4}}, {{Y: 0, From: 3, To: 4}, {Y: 1, From: 0, To: 1}},
	} {
		if e := grid.CheckRegion(example(), r); e != api.OK {
			t.Errorf("region %d: %v", i, e)
		}
	}
	for i, r := range wrongRegions {
		if e := grid.CheckRegion(example(), r); e != api.ErrArg {
			t.Errorf("wrong region %d: %v", i, e)
		}
		g := example()
		g.Land = r
		if e := grid.CheckGrid(g); e != api.ErrArg {
			t.Errorf("wrong land %d: %v", i, e)
		}
	}
	for i, g := range wrongGrids() {
		if e := grid.CheckRegion(g, nil); e != api.ErrArg {
			t.Errorf("wrong grid %d: %v", i, e)
		}
	}
	if e := grid.CheckRegion(widest(), comb(64, 4, 1)); e != api.OK {
		t.Errorf("the longest region: %v", e)
	}
	if e := grid.CheckRegion(widest(), append(comb(64, 4, 1), api.Run{Y: 255, To: 1})); e != api.ErrArg {
		t.Errorf("too many runs: %v", e)
	}
}

// P3: ErrArg comes first in every function, whatever else is wrong.
func TestErrArg(t *testing.T) {
	type call struct {
		what string
		call func(g api.Grid, r []api.Run) (any, api.Errno)
	}
	spot := api.Spot{X: 1, Y: 1}
	ofGrid := []call{
		{"CellOf", func(g api.Grid, _ []api.Run) (any, api.Errno) {
			c, e := grid.CellOf(g, api.Spot{X: -1})
			return c == api.Cell{}, e
		}},
		{"Region", func(g api.Grid, _ []api.Run) (any, api.Errno) {
			r, e := grid.Region(g, nil)
			return len(r) == 0, e
		}},
		{"All", func(g api.Grid, _ []api.Run) (any, api.Errno) {
			r, e := grid.All(g)
			return len(r) == 0, e
		}},
		{"Sea", func(g api.Grid, _ []api.Run) (any, api.Errno) {
			r, e := grid.Sea(g)
			return len(r) == 0, e
		}},
		{"Box", func(g api.Grid, _ []api.Run) (any, api.Errno) {
			r, e := grid.Box(g, spot, spot)
			return len(r) == 0, e
		}},
		{"Disc", func(g api.Grid, _ []api.Run) (any, api.Errno) {
			r, e := grid.Disc(g, spot, 3)
			return len(r) == 0, e
		}},
		{"Half", func(g api.Grid, _ []api.Run) (any, api.Errno) {
			r, e := grid.Half(g, api.Spot{}, spot)
			return len(r) == 0, e
		}},
		{"Shore", func(g api.Grid, _ []api.Run) (any, api.Errno) {
			r, e := grid.Shore(g)
			return len(r) == 0, e
		}},
		{"Draw", func(g api.Grid, _ []api.Run) (any, api.Errno) {
			return grid.Draw(g, nil) == "", api.ErrArg
		}},
	}
	merged := func(f func(g api.Grid, a, b []api.Run) ([]api.Run, api.Errno), swapped bool) func(g api.Grid, r []api.Run) (any, api.Errno) {
		return func(g api.Grid, r []api.Run) (any, api.Errno) {
			a, b := r, cell(0, 0)
			if swapped {
				a, b = b, a
			}
			out, e := f(g, a, b)
			return len(out) == 0, e
		}
	}
	ofRegion := []call{
		{"Cells", func(g api.Grid, r []api.Run) (any, api.Errno) {
			l, e := grid.Cells(g, r)
			return len(l) == 0, e
		}},
		{"Either", merged(grid.Either, false)}, {"Either", merged(grid.Either, true)},
		{"Both", merged(grid.Both, false)}, {"Both", merged(grid.Both, true)},
		{"Without", merged(grid.Without, false)}, {"Without", merged(grid.Without, true)},
		{"Grow", func(g api.Grid, r []api.Run) (any, api.Errno) {
			out, off, e := grid.Grow(g, r, push(-100, 0, 0, 0))
			return len(out) == 0 && !off, e
		}},
		{"Back", func(g api.Grid, r []api.Run) (any, api.Errno) {
			out, e := grid.Back(g, r, api.Push{})
			return len(out) == 0, e
		}},
		{"Hull", func(g api.Grid, r []api.Run) (any, api.Errno) {
			low, high, e := grid.Hull(g, r)
			return low == api.Spot{} && high == api.Spot{}, e
		}},
		{"Parts", func(g api.Grid, r []api.Run) (any, api.Errno) {
			l, e := grid.Parts(g, r)
			return len(l) == 0, e
		}},
		{"Draw", func(g api.Grid, r []api.Run) (any, api.Errno) {
			return grid.Draw(g, r) == "", api.ErrArg
		}},
	}
	for _, c := range append(slices.Clone(ofGrid), ofRegion...) {
		for i, g := range wrongGrids() {
			if zero, e := c.call(g, nil); e != api.ErrArg || zero != true {
				t.Errorf("%s, wrong grid %d: %v, %v", c.what, i, zero, e)
			}
		}
	}
	for _, c := range ofRegion {
		for i, r := range wrongRegions {
			if zero, e := c.call(example(), r); e != api.ErrArg || zero != true {
				t.Errorf("%s, wrong region %d: %v, %v", c.what, i, zero, e)
			}
		}
	}
}

// wrongSpots are not valid.
var wrongSpots = []api.Spot{
	{X: place + 1}, {X: -place - 1}, {Y: place + 1}, {Y: -place - 1}, {X: big, Y: small}, {X: small}, {Y: small},
}

// P3.1
func TestCellOf(t *testing.T) {
	for _, c := range []struct {
		s    api.Spot
		want api.Cell
		e    api.Errno
	}{
		{api.Spot{X: 39, Y: 29}, api.Cell{X: 3, Y: 2}, api.OK},
		{api.Spot{X: 0, Y: 0}, api.Cell{}, api.OK},
		{api.Spot{X: 9, Y: 10}, api.Cell{Y: 1}, api.OK},
		{api.Spot{X: 10, Y: 9}, api.Cell{X: 1}, api.OK},
		{api.Spot{X: 40, Y: 0}, api.Cell{}, api.ErrNone},
		{api.Spot{X: -1, Y: 5}, api.Cell{}, api.ErrNone},
		{api.Spot{X: 5, Y: -1}, api.Cell{}, api.ErrNone},
		{api.Spot{X: 5, Y: 30}, api.Cell{}, api.ErrNone},
		{api.Spot{X: place, Y: place}, api.Cell{}, api.ErrNone},
		{api.Spot{X: -place, Y: -place}, api.Cell{}, api.ErrNone},
	} {
		if got, e := grid.CellOf(example(), c.s); got != c.want || e != c.e {
			t.Errorf("%v: %v, %v", c.s, got, e)
		}
	}
	for _, s := range wrongSpots {
		if got, e := grid.CellOf(example(), s); got != (api.Cell{}) || e != api.ErrArg {
			t.Errorf("%v: %v, %v", s, got, e)
		}
	}
	if got, e := grid.CellOf(widest(), api.Spot{X: 256*50000 - 1, Y: 255 * 50000}); got != (api.Cell{X: 255, Y: 255}) || e != api.OK {
		t.Errorf("the last cell: %v, %v", got, e)
	}
	random := rand.New(rand.NewSource(1))
	for range 20000 {
		g := someGrid(random)
		s := someSpot(random, g)
		want, ok := cellOf(g, s)
		if got, e := grid.CellOf(g, s); got != want || ok != (e == api.OK) || !ok && e != api.ErrNone {
			t.Fatalf("%v in %v: %v, %v", s, g, got, e)
		}
	}
}

// P3.1: whatever the runs are.
func TestHasAndCount(t *testing.T) {
	for _, c := range []struct {
		r     []api.Run
		c     api.Cell
		has   bool
		count int
	}{
		{nil, api.Cell{}, false, 0},
		{[]api.Run{}, api.Cell{}, false, 0},
		{cell(2, 1), api.Cell{X: 2, Y: 1}, true, 1},
		{cell(2, 1), api.Cell{X: 1, Y: 2}, false, 1},
		{cell(2, 1), api.Cell{X: 3, Y: 1}, false, 1},
		{cell(2, 1), api.Cell{X: 1, Y: 1}, false, 1},
		{cell(2, 1), api.Cell{X: 2, Y: 0}, false, 1},
		{[]api.Run{{Y: 1, From: 2, To: 5}, {Y: 3, From: 0, To: 2}}, api.Cell{X: 1, Y: 3}, true, 5},
		{[]api.Run{{Y: 3, From: 0, To: 2}, {Y: 1, From: 2, To: 5}}, api.Cell{X: 4, Y: 1}, true, 5},
		{[]api.Run{{Y: 3, From: 0, To: 2}, {Y: 3, From: 1, To: 4}}, api.Cell{X: 1, Y: 3}, true, 5},
		{[]api.Run{{Y: -7, From: -5, To: -2}}, api.Cell{X: -3, Y: -7}, true, 3},
		{[]api.Run{{Y: 1, From: 5, To: 2}}, api.Cell{X: 3, Y: 1}, false, 0},
		{[]api.Run{{Y: 1, From: 5, To: 2}, {Y: 1, From: 3, To: 3}, {Y: 2, From: 3, To: 7}}, api.Cell{X: 3, Y: 1}, false, 4},
		{[]api.Run{{Y: 0, From: 3, To: big}}, api.Cell{X: big - 1}, true, big - 3},
		{[]api.Run{{Y: small, From: small, To: small + 1}}, api.Cell{X: small, Y: small}, true, 1},
	} {
		if has, count := grid.Has(c.r, c.c), grid.Count(c.r); has != c.has || count != c.count {
			t.Errorf("%v, %v: %v, %v", c.r, c.c, has, count)
		}
	}
	random := rand.New(rand.NewSource(2))
	for range 2000 {
		g := someGrid(random)
		r := someRegion(random, g)
		s := setOf(r)
		if grid.Count(r) != len(s) {
			t.Fatalf("%v: %v", r, grid.Count(r))
		}
		for y := -1; y <= g.H; y++ {
			for x := -1; x <= g.W; x++ {
				if c := (api.Cell{X: x, Y: y}); grid.Has(r, c) != s[c] {
					t.Fatalf("%v, %v: %v", r, c, !s[c])
				}
			}
		}
	}
}

// P3.1
func TestCells(t *testing.T) {
	l, e := grid.Cells(example(), []api.Run{{Y: 0, From: 1, To: 3}, {Y: 2, From: 0, To: 1}, {Y: 2, From: 3, To: 4}})
	if !slices.Equal(l, []api.Cell{{X: 1, Y: 0}, {X: 2, Y: 0}, {X: 0, Y: 2}, {X: 3, Y: 2}}) || e != api.OK {
		t.Error(l, e)
	}
	if l, e := grid.Cells(example(), nil); len(l) != 0 || e != api.OK {
		t.Error(l, e)
	}
	all := must(t)(grid.All(widest()))
	if l, e := grid.Cells(widest(), all); !slices.Equal(l, cellsOf(widest())) || e != api.OK {
		t.Error("all cells", len(l), e)
	}
}

// P3.1
func TestRegion(t *testing.T) {
	cells := []api.Cell{{X: 3, Y: 2}, {X: 1, Y: 0}, {X: 3, Y: 2}, {X: 0, Y: 0}, {X: 0, Y: 2}}
	want := []api.Run{{Y: 0, From: 0, To: 2}, {Y: 2, From: 0, To: 1}, {Y: 2, From: 3, To: 4}}
	if r := must(t)(grid.Region(example(), cells)); !equal(r, want) {
		t.Error(r)
	}
	if r := must(t)(grid.Region(example(), nil)); len(r) != 0 {
		t.Error(r)
	}
	for _, c := range []api.Cell{{X: -1}, {X: 4}, {Y: -1}, {Y: 3}, {X: big, Y: big}, {X: small}, {Y: small}} {
		if r, e := grid.Region(example(), append(slices.Clone(cells), c)); !isNothing(r, e, api.ErrArg) {
			t.Errorf("%v: %v, %v", c, r, e)
		}
	}
	most := cellsOf(widest())
	slices.Reverse(most)
	if r := must(t)(grid.Region(widest(), most)); !equal(r, must(t)(grid.All(widest()))) {
		t.Error("all cells")
	}
	for _, more := range []api.Cell{{}, {X: -1}} {
		for _, g := range []api.Grid{widest(), {}} { // ErrLong is named ahead of ErrArg
			if r, e := grid.Region(g, append(slices.Clone(most), more)); !isNothing(r, e, api.ErrLong) {
				t.Errorf("too many cells: %v, %v", len(r), e)
			}
		}
	}
	if r, e := grid.Region(widest(), slices.Repeat(most[:1], len(most))); !equal(r, cell(255, 255)) || e != api.OK {
		t.Error(r, e)
	}
}

// P3.1: the cells of a region make it.
func TestCellsAndRegion(t *testing.T) {
	random := rand.New(rand.NewSource(3))
	for range 5000 {
		g := someGrid(random)
		r := someRegion(random, g)
		l, e := grid.Cells(g, r)
		if e != api.OK || len(l) != len(setOf(r)) {
			t.Fatalf("%v: %v, %v", r, l, e)
		}
		random.Shuffle(len(l), func(i, j int) { l[i], l[j] = l[j], l[i] })
		for range random.Intn(3*min(len(l), 1) + 1) {
			l = append(l, l[random.Intn(len(l))])
		}
		if got := must(t)(grid.Region(g, l)); !equal(got, r) {
			t.Fatalf("%v: %v", r, got)
		}
	}
}

// ErrLong comes last, in each function whose region can have too many runs.
func TestErrLong(t *testing.T) {
	g := widest()
	most := comb(64, 1, 0)
	cells := func(r []api.Run) []api.Cell {
		var l []api.Cell
		for _, run := range r {
			l = append(l, api.Cell{X: run.From, Y: run.Y})
		}
		return l
	}
	if r := must(t)(grid.Region(g, cells(most))); !equal(r, most) {
		t.Error("Region of the longest list")
	}
	if r, e := grid.Region(g, cells(comb(65, 1, 0))); !isNothing(r, e, api.ErrLong) {
		t.Error("Region", len(r), e)
	}
	if r := must(t)(grid.Either(g, most, nil)); !equal(r, most) {
		t.Error("Either with the longest result")
	}
	if r, e := grid.Either(g, most, cell(0, 64)); !isNothing(r, e, api.ErrLong) {
		t.Error("Either", len(r), e)
	}
	all := must(t)(grid.All(g))
	if r, e := grid.Without(g, all, most); !isNothing(r, e, api.ErrLong) {
		t.Error("Without", len(r), e)
	}
	var a, b []api.Run
	for y := range api.MaxWide {
		for x := 0; x < api.MaxWide; x += 8 { // each run of a meets two of b, so that both have twice as many
			a = append(a, api.Run{Y: y, From: x, To: x + 5})
			b = append(b, api.Run{Y: y, From: x + 3, To: min(x+9, api.MaxWide)})
		}
	}
	if r, e := grid.Both(g, a, b); !isNothing(r, e, api.ErrLong) {
		t.Error("Both", len(r), e)
	}
	sea := g
	sea.Land = comb(64, 1, 0)
	if r, e := grid.Sea(sea); !isNothing(r, e, api.ErrLong) {
		t.Error("Sea", len(r), e)
	}
	shore := g
	shore.Land = nil
	for y := range 64 {
		for x := range 128 {
			shore.Land = append(shore.Land, api.Run{Y: 4 * y, From: 2*x + y%2, To: 2*x + y%2 + 1})
		}
	}
	if r, e := grid.Shore(shore); !isNothing(r, e, api.ErrLong) {
		t.Error("Shore", len(r), e)
	}
	if r, off, e := grid.Grow(g, comb(64, 2, 0), push(0, 0, 0, 1)); !isNothing(r, e, api.ErrLong) || off {
		t.Error("Grow", len(r), off, e)
	}
	if r, off, e := grid.Grow(g, comb(64, 2, 0), push(0, -1, 0, 0)); !isNothing(r, e, api.ErrLong) || off {
		t.Error("Grow, with something off the grid", len(r), off, e)
	}
	if r, e := grid.Back(g, comb(64, 2, 0), push(0, -1, 0, 0)); !isNothing(r, e, api.ErrLong) {
		t.Error("Back", len(r), e)
	}
}
