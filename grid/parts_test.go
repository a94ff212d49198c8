package grid_test

import (
	"math/rand"
	"slices"
	"strings"
	"testing"

	"cresset/api"
	"cresset/grid"
)

// partsOf returns the connected parts of a region, found cell by cell.
func partsOf(g api.Grid, r []api.Run) [][]api.Run {
	var l [][]api.Run
	left := setOf(r)
	for _, c := range cellsOf(g) {
		if !left[c] {
			continue
		}
		part, next := set{}, []api.Cell{c}
		for len(next) > 0 {
			c := next[0]
			next = next[1:]
			if left[c] {
				delete(left, c)
				part[c] = true
				next = append(next, api.Cell{X: c.X - 1, Y: c.Y}, api.Cell{X: c.X + 1, Y: c.Y}, api.Cell{X: c.X, Y: c.Y - 1}, api.Cell{X: c.X, Y: c.Y + 1})
			}
		}
		l = append(l, part.runs(g))
	}
	return l
}

// spiral returns a region that is one long part: its rows are connected at their ends in turn.
func spiral() []api.Run {
	var l []api.Run
	for y := range api.MaxWide {
		switch y % 4 {
		case 0, 2:
			l = append(l, api.Run{Y: y, From: 0, To: api.MaxWide})
		case 1:
			l = append(l, api.Run{Y: y, From: api.MaxWide - 1, To: api.MaxWide})
		case 3:
			l = append(l, api.Run{Y: y, From: 0, To: 1})
		}
	}
	return l
}

// P3.5
func TestParts(t *testing.T) {
	for _, c := range []struct {
		what string
		r    []api.Run
		want [][]api.Run
	}{
		{"none", nil, nil},
		{"a cell", cell(3, 2), [][]api.Run{cell(3, 2)}},
		{"two", []api.Run{{Y: 1, From: 0, To: 1}, {Y: 1, From: 2, To: 3}, {Y: 2, From: 2, To: 3}}, [][]api.Run{cell(0, 1), {{Y: 1, From: 2, To: 3}, {Y: 2, From: 2, To: 3}}}},
		{"corners are no sides", []api.Run{{Y: 0, From: 1, To: 2}, {Y: 1, From: 0, To: 1}, {Y: 1, From: 2, To: 3}}, [][]api.Run{cell(1, 0), cell(0, 1), cell(2, 1)}},
		{"around", []api.Run{{Y: 0, From: 0, To: 1}, {Y: 0, From: 2, To: 3}, {Y: 1, From: 0, To: 3}}, [][]api.Run{{{Y: 0, From: 0, To: 1}, {Y: 0, From: 2, To: 3}, {Y: 1, From: 0, To: 3}}}},
		{"one within another one's arms", []api.Run{{Y: 0, From: 0, To: 4}, {Y: 1, From: 0, To: 1}, {Y: 1, From: 3, To: 4}, {Y: 2, From: 0, To: 1}, {Y: 2, From: 2, To: 4}}, [][]api.Run{{{Y: 0, From: 0, To: 4}, {Y: 1, From: 0, To: 1}, {Y: 1, From: 3, To: 4}, {Y: 2, From: 0, To: 1}, {Y: 2, From: 2, To: 4}}}},
	} {
		if l, e := grid.Parts(example(), c.r); !slices.EqualFunc(l, c.want, equal) || e != api.OK {
			t.Errorf("%s: %v, %v", c.what, l, e)
		}
	}
	if l, e := grid.Parts(widest(), spiral()); !slices.EqualFunc(l, [][]api.Run{spiral()}, equal) || e != api.OK {
		t.Error("a spiral", len(l), e)
	}
	if l, e := grid.Parts(widest(), comb(64, 1, 0)); len(l) != 128 || len(l[127]) != 64 || e != api.OK {
		t.Error("a comb", len(l), e)
	}
	if l, e := grid.Parts(widest(), comb(64, 2, 0)); len(l) != api.MaxRuns || e != api.OK {
		t.Error("points", len(l), e)
	}
	random := rand.New(rand.NewSource(16))
	for range 3000 {
		g := someGrid(random)
		r := someRegion(random, g)
		if l, e := grid.Parts(g, r); !slices.EqualFunc(l, partsOf(g, r), equal) || e != api.OK {
			t.Fatalf("%v in %v: %v, %v", r, g, l, e)
		}
	}
	for range 5 {
		g, r := wide(random)
		if l, e := grid.Parts(g, r); !slices.EqualFunc(l, partsOf(g, r), equal) || e != api.OK {
			t.Fatalf("a wide region: %v, %v", len(l), e)
		}
	}
}

// P3.8: parts are apart, and make the region.
func TestPartsMakeRegion(t *testing.T) {
	random := rand.New(rand.NewSource(17))
	for range 1000 {
		g := someGrid(random)
		r := someRegion(random, g)
		l, _ := grid.Parts(g, r)
		var all []api.Run
		for i, a := range l {
			all = must(t)(grid.Either(g, all, a))
			for _, b := range l[i+1:] {
				beside := must(t)(grid.Either(g, grown(t, g, a, push(-1, 0, 1, 0)), grown(t, g, a, push(0, -1, 0, 1))))
				if len(must(t)(grid.Both(g, beside, b))) != 0 {
					t.Fatalf("%v and %v", a, b)
				}
			}
		}
		if !equal(all, r) {
			t.Fatalf("%v: %v", r, l)
		}
	}
}

// P3.6
func TestDraw(t *testing.T) {
	r := []api.Run{{Y: 0, From: 1, To: 3}, {Y: 2, From: 3, To: 4}}
	if s := grid.Draw(example(), r); s != "...#\n....\n^@#.\n" {
		t.Errorf("%q", s)
	}
	if s := grid.Draw(example(), nil); s != "....\n....\n^^..\n" {
		t.Errorf("%q", s)
	}
	if s := grid.Draw(api.Grid{W: 1, H: 1, Size: 1}, cell(0, 0)); s != "#\n" {
		t.Errorf("%q", s)
	}
	random := rand.New(rand.NewSource(18))
	compare := func(g api.Grid, r []api.Run) {
		land, region := setOf(g.Land), setOf(r)
		var want strings.Builder
		for y := g.H - 1; y >= 0; y-- {
			for x := range g.W {
				c, mark := api.Cell{X: x, Y: y}, 0
				if land[c] {
					mark++
				}
				if region[c] {
					mark += 2
				}
				want.WriteByte(".^#@"[mark])
			}
			want.WriteByte('\n')
		}
		if s := grid.Draw(g, r); s != want.String() {
			t.Fatalf("%v in %v:\n%s", r, g, s)
		}
	}
	for range 1000 {
		g := someGrid(random)
		compare(g, someRegion(random, g))
	}
	compare(wide(random))
}

// P3.7: arguments are only read, and results are new.
func TestMemory(t *testing.T) {
	random := rand.New(rand.NewSource(19))
	for range 300 {
		g := someGrid(random)
		a, b := someRegion(random, g), someRegion(random, g)
		land, keptA, keptB := slices.Clone(g.Land), slices.Clone(a), slices.Clone(b)
		results := func() [][]api.Run {
			var l [][]api.Run
			for _, f := range []func(g api.Grid, a, b []api.Run) ([]api.Run, api.Errno){grid.Either, grid.Both, grid.Without} {
				l = append(l, must(t)(f(g, a, b)))
			}
			l = append(l, must(t)(grid.All(g)), must(t)(grid.Sea(g)), must(t)(grid.Shore(g)), grown(t, g, a, api.Push{}), must(t)(grid.Back(g, a, api.Push{})))
			parts, _ := grid.Parts(g, a)
			return append(l, parts...)
		}
		first := results()
		kept := make([][]api.Run, len(first))
		for i, r := range first {
			kept[i] = slices.Clone(r)
		}
		for i, r := range first { // each one is spoiled, up to its capacity, when the others must be as they were
			if !equal(r, kept[i]) {
				t.Fatal("a result that another one shares memory with", i)
			}
			r = r[:cap(r)]
			for j := range r {
				r[j] = api.Run{Y: -1}
			}
		}
		if !equal(g.Land, land) || !equal(a, keptA) || !equal(b, keptB) {
			t.Fatal("an argument that was changed")
		}
		if again := results(); !slices.EqualFunc(again, kept, equal) {
			t.Fatal("other results", again, kept)
		}
	}
	g := example()
	cells := []api.Cell{{X: 3, Y: 2}, {X: 1, Y: 1}}
	must(t)(grid.Region(g, cells))
	if !slices.Equal(cells, []api.Cell{{X: 3, Y: 2}, {X: 1, Y: 1}}) {
		t.Error("the cells of Region", cells)
	}
}
