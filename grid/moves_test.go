package grid_test

import (
	"math/rand"
	"testing"

	"cresset/api"
	"cresset/grid"
)

// P3.3
func TestGrow(t *testing.T) {
	for _, c := range []struct {
		what string
		r    []api.Run
		p    api.Push
		want []api.Run
		off  bool
	}{
		{"no cell", nil, push(-1000, -1000, 1000, 1000), nil, false},
		{"no move", cell(1, 1), api.Push{}, cell(1, 1), false},
		{"a metre to the right", cell(1, 1), push(1, 0, 1, 0), []api.Run{{Y: 1, From: 1, To: 3}}, false},
		{"a cell to the right", cell(1, 1), push(10, 0, 10, 0), cell(2, 1), false},
		{"a metre more", cell(1, 1), push(11, 0, 11, 0), []api.Run{{Y: 1, From: 2, To: 4}}, false},
		{"a metre to the left", cell(1, 1), push(-1, 0, -1, 0), []api.Run{{Y: 1, From: 0, To: 2}}, false},
		{"a cell to the left", cell(1, 1), push(-10, 0, -10, 0), cell(0, 1), false},
		{"a metre up", cell(1, 1), push(0, 1, 0, 1), []api.Run{{Y: 1, From: 1, To: 2}, {Y: 2, From: 1, To: 2}}, false},
		{"a cell down", cell(1, 1), push(0, -10, 0, -10), cell(1, 0), false},
		{"a metre off", cell(3, 1), push(1, 0, 1, 0), cell(3, 1), true},
		{"up and off", cell(3, 2), push(-10, 1, -10, 1), cell(2, 2), true},
		{"a metre to the left, and off", cell(0, 1), push(-1, 0, -1, 0), cell(0, 1), true},
		{"down and off", cell(0, 0), push(0, -1, 0, -1), cell(0, 0), true},
		{"all off", cell(1, 1), push(30, 0, 30, 0), nil, true},
		{"all off, far", cell(1, 1), push(-place, -place, -place, -place), nil, true},
		{"all moves", cell(1, 1), push(-place, -place, place, place), []api.Run{{Y: 0, To: 4}, {Y: 1, To: 4}, {Y: 2, To: 4}}, true},
		{"up to the sides", cell(1, 1), push(-10, -10, 20, 10), []api.Run{{Y: 0, To: 4}, {Y: 1, To: 4}, {Y: 2, To: 4}}, false},
		{"two that meet", []api.Run{{Y: 1, From: 0, To: 1}, {Y: 1, From: 2, To: 3}}, push(0, 0, 1, 0), []api.Run{{Y: 1, From: 0, To: 4}}, false},
	} {
		if got, off, e := grid.Grow(example(), c.r, c.p); !equal(got, c.want) || off != c.off || e != api.OK {
			t.Errorf("%s: %v, %v, %v", c.what, got, off, e)
		}
	}
}

// wrongPushes are not valid.
var wrongPushes = []api.Push{
	push(1, 0, 0, 0), push(0, 1, 0, 0), push(5, 5, -5, -5),
	push(-api.MaxPush-1, 0, 0, 0), push(0, -api.MaxPush-1, 0, 0), push(0, 0, api.MaxPush+1, 0), push(0, 0, 0, api.MaxPush+1),
	push(api.MaxPush+1, 0, api.MaxPush+1, 0), push(0, -api.MaxPush-2, 0, -api.MaxPush-1),
	push(small, small, small, small), push(small, 0, 0, 0), push(0, 0, 1<<63-1, 0), push(1<<63-1, 0, 1<<63-1, 0),
}

// P3.3
func TestWrongPushes(t *testing.T) {
	for _, p := range wrongPushes {
		if r, off, e := grid.Grow(example(), cell(1, 1), p); !isNothing(r, e, api.ErrArg) || off {
			t.Errorf("Grow by %v: %v, %v, %v", p, r, off, e)
		}
		if r, e := grid.Back(example(), cell(1, 1), p); !isNothing(r, e, api.ErrArg) {
			t.Errorf("Back by %v: %v, %v", p, r, e)
		}
	}
}

// P3.3, P3.8: each place with each move.
func TestGrowAndBackPlaceByPlace(t *testing.T) {
	random := rand.New(rand.NewSource(7))
	for range 1500 {
		g := someGrid(random)
		r, p := someRegion(random, g), somePush(random, g)
		in := setOf(r)
		to, from, isOff := set{}, set{}, false
		for _, c := range cellsOf(g) {
			for _, s := range places(g, c) {
				for _, m := range moves(p) {
					next, ok := cellOf(g, api.Spot{X: s.X + m.X, Y: s.Y + m.Y})
					if in[c] && ok {
						to[next] = true
					}
					isOff = isOff || in[c] && !ok
					if ok && in[next] {
						from[c] = true
					}
				}
			}
		}
		if got, off, e := grid.Grow(g, r, p); !equal(got, to.runs(g)) || off != isOff || e != api.OK {
			t.Fatalf("Grow of %v by %v in %v: %v, %v, %v", r, p, g, got, off, e)
		}
		if got := must(t)(grid.Back(g, r, p)); !equal(got, from.runs(g)) {
			t.Fatalf("Back of %v by %v in %v: %v", r, p, g, got)
		}
	}
}

// P3.3, P3.8: great grids, and great pushes.
func TestGrowOfWide(t *testing.T) {
	random := rand.New(rand.NewSource(8))
	for range 40 {
		g, r := wide(random)
		r = r[:min(len(r), 1+random.Intn(60))]
		size := min(g.Size*40, api.MaxPush/2)
		x, y := random.Intn(2*size+1)-size, random.Intn(2*size+1)-size
		p := push(x, y, x+random.Intn(size), y+random.Intn(size))
		want, isOff := set{}, false
		down := func(n int) int { return (n+1000*g.Size)/g.Size - 1000 }
		for _, run := range r {
			for yy := down(run.Y*g.Size + p.Low.Y); yy <= down(run.Y*g.Size+g.Size-1+p.High.Y); yy++ {
				for xx := down(run.From*g.Size + p.Low.X); xx <= down(run.To*g.Size-1+p.High.X); xx++ {
					if xx < 0 || yy < 0 || xx >= g.W || yy >= g.H {
						isOff = true
						continue
					}
					want[api.Cell{X: xx, Y: yy}] = true
				}
			}
		}
		if got, off, e := grid.Grow(g, r, p); !equal(got, want.runs(g)) || off != isOff || e != api.OK {
			t.Fatalf("Grow of %v by %v: %v, %v, %v", r, p, got, off, e)
		}
	}
}

// isIn reports whether all cells of a are in b.
func isIn(t *testing.T, g api.Grid, a, b []api.Run) bool {
	t.Helper()
	return len(must(t)(grid.Without(g, a, b))) == 0
}

// P3.8: a greater region, or a greater push, grows to no less, and a cell is in Back of another one just if that is in Grow of it.
func TestLawsOfMoves(t *testing.T) {
	random := rand.New(rand.NewSource(9))
	for range 800 {
		g := someGrid(random)
		r, p := someRegion(random, g), somePush(random, g)
		more := must(t)(grid.Either(g, r, someRegion(random, g)))
		greater := push(p.Low.X-random.Intn(4), p.Low.Y-random.Intn(4), p.High.X+random.Intn(4), p.High.Y+random.Intn(4))
		out := grown(t, g, r, p)
		if !isIn(t, g, out, grown(t, g, more, p)) || !isIn(t, g, out, grown(t, g, r, greater)) {
			t.Fatalf("%v by %v: less", r, p)
		}
		a := api.Cell{X: random.Intn(g.W), Y: random.Intn(g.H)}
		for _, b := range cellsOf(g) {
			back := must(t)(grid.Back(g, cell(b.X, b.Y), p))
			if grid.Has(back, a) != grid.Has(grown(t, g, cell(a.X, a.Y), p), b) {
				t.Fatalf("from %v to %v by %v in %v", a, b, p, g)
			}
		}
	}
}

// P3.8: two pushes, one after the other, lead to at least what both together do, if nothing is off the grid on the way.
func TestPushAfterPush(t *testing.T) {
	random := rand.New(rand.NewSource(10))
	n := 0
	for range 5000 {
		g := api.Grid{W: 12, H: 12, Size: 1 + random.Intn(4)}
		r := cell(4+random.Intn(4), 4+random.Intn(4))
		p, q := somePush(random, g), somePush(random, g)
		sum := push(p.Low.X+q.Low.X, p.Low.Y+q.Low.Y, p.High.X+q.High.X, p.High.Y+q.High.Y)
		first, off, e := grid.Grow(g, r, p)
		if off || e != api.OK {
			continue
		}
		n++
		if !isIn(t, g, grown(t, g, r, sum), grown(t, g, first, q)) {
			t.Fatalf("%v by %v and %v", r, p, q)
		}
	}
	if n < 500 {
		t.Fatal("too few", n)
	}
}

// P3.5
func TestShore(t *testing.T) {
	if r := must(t)(grid.Shore(example())); !equal(r, []api.Run{{Y: 0, From: 2, To: 3}, {Y: 1, From: 0, To: 2}}) {
		t.Error(r)
	}
	if r := must(t)(grid.Shore(widest())); len(r) != 0 {
		t.Error("no land", r)
	}
	random := rand.New(rand.NewSource(11))
	compare := func(g api.Grid) {
		land := setOf(g.Land)
		want := chosen(g, func(c api.Cell) bool {
			beside := land[api.Cell{X: c.X - 1, Y: c.Y}] || land[api.Cell{X: c.X + 1, Y: c.Y}] || land[api.Cell{X: c.X, Y: c.Y - 1}] || land[api.Cell{X: c.X, Y: c.Y + 1}]
			return beside && !land[c]
		})
		if r := must(t)(grid.Shore(g)); !equal(r, want) {
			t.Fatalf("%v: %v", g, r)
		}
	}
	for range 3000 {
		compare(someGrid(random))
	}
	for range 5 {
		g, _ := wide(random)
		compare(g)
	}
}
