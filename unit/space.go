package unit

import "cresset/api"

// Boxes returns the space that legs take.
func Boxes(u api.Unit, legs []api.Leg, pieces int) ([]api.Box, api.Errno) {
	switch {
	case !CheckUnit(u) || !areLegs(legs):
		return nil, api.ErrArg
	case !isBetween(1, pieces, api.MaxPieces):
		return nil, api.ErrRange
	}
	var boxes []api.Box
	for _, l := range legs {
		if l.Start < l.Arrive {
			for j := range pieces {
				boxes = append(boxes, pieceOf(u, l, j, pieces))
			}
		}
		if l.Arrive < l.Leave || l.Start == l.Leave {
			boxes = append(boxes, boxOf(u, l, l.Arrive, l.Leave))
		}
	}
	return boxes, api.OK
}

// Clash returns the first boxes that have something in common.
func Clash(a, b []api.Box) (i, k int) {
	for i, x := range a {
		for k, y := range b {
			if clash(x, y) {
				return i, k
			}
		}
	}
	return -1, -1
}

// pieceOf returns the box of the piece j of a leg's way.
func pieceOf(u api.Unit, l api.Leg, j, pieces int) api.Box {
	long := l.Arrive - l.Start
	return boxOf(u, l, l.Start+roundDown(long*j, pieces), l.Start+roundUp(long*(j+1), pieces))
}

// boxOf returns the box of a leg from a time to another one; either the unit moves on one line between these, or it stays.
func boxOf(u api.Unit, l api.Leg, from, to int) api.Box {
	firstLow, firstHigh := placeAt(l, from)
	lastLow, lastHigh := placeAt(l, to)
	low, _ := boxAround(firstLow, lastLow)
	_, high := boxAround(firstHigh, lastHigh)
	return api.Box{
		Low:   api.Spot{X: low.X - u.Margin, Y: low.Y - u.Margin},
		High:  api.Spot{X: high.X + u.Margin, Y: high.Y + u.Margin},
		From:  from,
		To:    to,
		Level: u.Level,
	}
}

// boxAround returns the least box around two places.
func boxAround(a, b api.Spot) (low, high api.Spot) {
	return api.Spot{X: min(a.X, b.X), Y: min(a.Y, b.Y)}, api.Spot{X: max(a.X, b.X), Y: max(a.Y, b.Y)}
}

func clash(a, b api.Box) bool {
	return a.Level == b.Level && meet(a.From, a.To, b.From, b.To) &&
		meet(a.Low.X, a.High.X, b.Low.X, b.High.X) && meet(a.Low.Y, a.High.Y, b.Low.Y, b.High.Y)
}

// meet reports whether two closed intervals have a number in common. (One that ends before it begins has none at all.)
func meet(from, to, otherFrom, otherTo int) bool {
	return max(from, otherFrom) <= min(to, otherTo)
}
