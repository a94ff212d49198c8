package grid_test

import (
	"math/rand"
	"testing"

	"cresset/api"
	"cresset/grid"
)

// P3.2
func TestAllAndSea(t *testing.T) {
	if r := must(t)(grid.All(example())); !equal(r, []api.Run{{Y: 0, To: 4}, {Y: 1, To: 4}, {Y: 2, To: 4}}) {
		t.Error(r)
	}
	if r := must(t)(grid.Sea(example())); !equal(r, []api.Run{{Y: 0, From: 2, To: 4}, {Y: 1, To: 4}, {Y: 2, To: 4}}) {
		t.Error(r)
	}
	land := api.Grid{W: 1, H: 1, Size: 1, Land: cell(0, 0)}
	if r := must(t)(grid.Sea(land)); len(r) != 0 {
		t.Error(r)
	}
	random := rand.New(rand.NewSource(4))
	for range 3000 {
		g := someGrid(random)
		land := setOf(g.Land)
		all := chosen(g, func(api.Cell) bool { return true })
		sea := chosen(g, func(c api.Cell) bool { return !land[c] })
		if r := must(t)(grid.All(g)); !equal(r, all) {
			t.Fatalf("%v: %v", g, r)
		}
		if r := must(t)(grid.Sea(g)); !equal(r, sea) {
			t.Fatalf("%v: %v", g, r)
		}
	}
}

// compareSets compares the functions of sets with sets of cells.
func compareSets(t *testing.T, g api.Grid, a, b []api.Run) {
	t.Helper()
	inA, inB := setOf(a), setOf(b)
	for _, c := range []struct {
		what string
		got  []api.Run
		want func(c api.Cell) bool
	}{
		{"Either", must(t)(grid.Either(g, a, b)), func(c api.Cell) bool { return inA[c] || inB[c] }},
		{"Both", must(t)(grid.Both(g, a, b)), func(c api.Cell) bool { return inA[c] && inB[c] }},
		{"Without", must(t)(grid.Without(g, a, b)), func(c api.Cell) bool { return inA[c] && !inB[c] }},
	} {
		if !equal(c.got, chosen(g, c.want)) {
			t.Fatalf("%s of %v and %v: %v", c.what, a, b, c.got)
		}
	}
}

// P3.2
func TestSets(t *testing.T) {
	random := rand.New(rand.NewSource(5))
	for range 5000 {
		g := someGrid(random)
		compareSets(t, g, someRegion(random, g), someRegion(random, g))
	}
	for range 4 {
		g, r := wide(random)
		compareSets(t, g, g.Land, r)
		compareSets(t, g, r, g.Land)
		compareSets(t, g, r, nil)
	}
}

// P3.8: the laws of sets.
func TestLawsOfSets(t *testing.T) {
	random := rand.New(rand.NewSource(6))
	for range 800 {
		g := someGrid(random)
		a, b, c := someRegion(random, g), someRegion(random, g), someRegion(random, g)
		is := func(f func(g api.Grid, a, b []api.Run) ([]api.Run, api.Errno), a, b []api.Run) []api.Run {
			return must(t)(f(g, a, b))
		}
		all := must(t)(grid.All(g))
		for i, law := range [][2][]api.Run{
			{is(grid.Either, a, b), is(grid.Either, b, a)},
			{is(grid.Both, a, b), is(grid.Both, b, a)},
			{is(grid.Either, a, is(grid.Either, b, c)), is(grid.Either, is(grid.Either, a, b), c)},
			{is(grid.Both, a, is(grid.Both, b, c)), is(grid.Both, is(grid.Both, a, b), c)},
			{is(grid.Both, a, is(grid.Either, b, c)), is(grid.Either, is(grid.Both, a, b), is(grid.Both, a, c))},
			{is(grid.Either, a, is(grid.Both, b, c)), is(grid.Both, is(grid.Either, a, b), is(grid.Either, a, c))},
			{is(grid.Without, a, is(grid.Either, b, c)), is(grid.Without, is(grid.Without, a, b), c)},
			{is(grid.Without, all, is(grid.Both, a, b)), is(grid.Either, is(grid.Without, all, a), is(grid.Without, all, b))},
			{is(grid.Either, a, is(grid.Both, a, b)), a},
			{is(grid.Either, is(grid.Without, a, b), is(grid.Both, a, b)), a},
			{is(grid.Both, is(grid.Without, a, b), b), nil},
			{is(grid.Either, a, all), all},
			{is(grid.Both, a, all), a},
			{is(grid.Either, must(t)(grid.Sea(g)), g.Land), all},
		} {
			if !equal(law[0], law[1]) {
				t.Fatalf("law %d of %v, %v, %v: %v", i, a, b, c, law)
			}
		}
	}
}
