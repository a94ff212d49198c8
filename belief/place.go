package belief

import (
	"cmp"
	"iter"
	"maps"
	"slices"

	"cresset/api"
)

// place is a scene and a cell, or what is gone of the scene.
type place struct {
	scene int
	cell  api.Cell
}

// gone is how what has left the grid is written as a cell.
func gone() api.Cell {
	return api.Cell{X: -1, Y: -1}
}

func placeOf(m api.Mass) place {
	return place{m.Scene, m.Cell}
}

func comparePlaces(a, b place) int {
	return cmp.Or(cmp.Compare(a.scene, b.scene), compareCells(a.cell, b.cell))
}

func compareCells(a, b api.Cell) int {
	return cmp.Or(cmp.Compare(a.Y, b.Y), cmp.Compare(a.X, b.X))
}

// has reports whether a valid region has a cell. (Has of layer 3 looks at all runs, as they may be in any order; that takes long for many places.)
func has(region []api.Run, c api.Cell) bool {
	_, found := slices.BinarySearchFunc(region, c, func(r api.Run, c api.Cell) int {
		switch {
		case r.Y != c.Y:
			return cmp.Compare(r.Y, c.Y)
		case r.To <= c.X:
			return -1
		case r.From > c.X:
			return 1
		}
		return 0
	})
	return found
}

// add adds a weight to that of a key, which is 0 at first.
func add[K comparable](weights map[K]api.Part, key K, more api.Part) {
	if so, ok := weights[key]; ok {
		more = plus(so, more)
	}
	weights[key] = more
}

// inOrder yields all keys in an order, each one with its weight.
func inOrder[K comparable](weights map[K]api.Part, compare func(a, b K) int) iter.Seq2[K, api.Part] {
	return func(yield func(K, api.Part) bool) {
		for _, key := range slices.SortedFunc(maps.Keys(weights), compare) {
			if !yield(key, weights[key]) {
				return
			}
		}
	}
}

// masses returns the weights of places, without those that are 0, as masses.
func masses(weights map[place]api.Part) []api.Mass {
	var l []api.Mass
	for p, w := range inOrder(weights, comparePlaces) {
		if w != zero() {
			l = append(l, api.Mass{Scene: p.scene, Cell: p.cell, Weight: deep(w)})
		}
	}
	return l
}
