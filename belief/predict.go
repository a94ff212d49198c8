package belief

import (
	"iter"

	"cresset/api"
	"cresset/weight"
)

// begin returns the masses at the beginning.
func begin(b api.Belief) []api.Mass {
	weights := map[place]api.Part{}
	scenes := must(weight.Share(parts(b.Scenes, func(s api.Scene) api.Part { return s.Weight })))
	for n, scene := range b.Scenes {
		cells := must(weight.Share(parts(scene.Start, func(s api.Share) api.Part { return s.Weight })))
		for i, start := range scene.Start {
			add(weights, place{n, start.Cell}, times(scenes[n], cells[i]))
		}
	}
	return masses(weights)
}

// predict returns masses after a step.
func predict(b api.Belief, l []api.Mass) []api.Mass {
	weights := map[place]api.Part{}
	for _, m := range l {
		for to, chance := range ways(b, placeOf(m)) {
			add(weights, to, times(m.Weight, chance))
		}
	}
	return masses(weights)
}

// ways yields the places to which a step leads, stride by stride, and the chance of each. What is gone, or on land, stays there for sure.
func ways(b api.Belief, from place) iter.Seq2[place, api.Part] {
	return func(yield func(place, api.Part) bool) {
		if from.cell == gone() || has(b.Sea.Land, from.cell) {
			yield(from, one())
			return
		}
		for _, s := range b.Scenes[from.scene].Strides {
			if !yield(place{from.scene, stride(b.Sea, from.cell, s)}, s.Chance) {
				return
			}
		}
	}
}

// stride returns the cell to which a stride leads from another one.
func stride(sea api.Grid, from api.Cell, s api.Stride) api.Cell {
	to := api.Cell{X: from.X + s.DX, Y: from.Y + s.DY}
	if !isCell(sea, to) {
		return gone()
	}
	return to
}
