package tracks

import (
	"cmp"
	"iter"

	"cresset/api"
)

// legs yields where each leg of a track begins, and where it ends.
func legs(l []api.Spot) iter.Seq2[api.Spot, api.Spot] {
	return func(yield func(from, to api.Spot) bool) {
		for i := 1; i < len(l); i++ {
			if !yield(l[i-1], l[i]) {
				return
			}
		}
	}
}

// sizes returns how far it is from a spot to another one, in x and in y.
func sizes(from, to api.Spot) (u, v int) {
	way := minus(to, from)
	return max(way.X, -way.X), max(way.Y, -way.Y)
}

// leg is a leg of a valid track; its way has -1, 0 or 1 in x and in y.
type leg struct {
	from, to, way api.Spot
}

func legOf(from, to api.Spot) leg {
	return leg{from, to, api.Spot{X: cmp.Compare(to.X, from.X), Y: cmp.Compare(to.Y, from.Y)}}
}

// isNear reports whether a spot is not farther from the leg than a width.
func (k leg) isNear(s api.Spot, width int) bool {
	behind, ahead := minus(s, k.from), minus(k.to, s)
	switch {
	case dot(behind, k.way) < 0:
		return dot(behind, behind) <= width*width
	case dot(ahead, k.way) < 0:
		return dot(ahead, ahead) <= width*width
	}
	// The distance from the line is aside, divided by the size of the way: 1, or the root of 2.
	aside := behind.X*k.way.Y - behind.Y*k.way.X
	return aside*aside <= width*width*dot(k.way, k.way)
}

// nearest returns the spot of the height y that is nearest to the leg. Away from it, to either side, the spots of that height never come nearer to the leg again.
func (k leg) nearest(y int) api.Spot {
	height := min(max(y, min(k.from.Y, k.to.Y)), max(k.from.Y, k.to.Y))
	steps := (height - k.from.Y) * k.way.Y
	return api.Spot{X: k.from.X + steps*k.way.X, Y: y}
}

func minus(a, b api.Spot) api.Spot {
	return api.Spot{X: a.X - b.X, Y: a.Y - b.Y}
}

func dot(a, b api.Spot) int {
	return a.X*b.X + a.Y*b.Y
}
