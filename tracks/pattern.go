package tracks

import "cresset/api"

// directions are those of x and of y, and those against them; each next one is to the left of the one before.
var directions = [4][2]int{{1, 0}, {0, 1}, {-1, 0}, {0, -1}}

// sector is the spots of a sector track behind its first one, by radii from that.
var sector = [12][2]int{
	{1, 0}, {1, 1}, {0, 0},
	{0, 1}, {-1, 1}, {0, 0},
	{-1, 0}, {-1, -1}, {0, 0},
	{0, -1}, {1, -1}, {0, 0},
}

// Parallel returns a track of parallel lines in a box.
func Parallel(low, high api.Spot, space, along int) ([]api.Spot, api.Errno) {
	if !isSpot(low) || !isSpot(high) || low.X >= high.X || low.Y >= high.Y || !isBetween(1, space, api.MaxLook) || !isBetween(0, along, 1) {
		return nil, api.ErrArg
	}
	turned := func(s api.Spot) api.Spot { return s }
	if along == 1 {
		turned = func(s api.Spot) api.Spot { return api.Spot{X: s.Y, Y: s.X} }
	}
	low, high = turned(low), turned(high)
	n := roundUp(high.Y-low.Y, space)
	if 2*n > api.MaxTrack {
		return nil, api.ErrLong
	}
	var l []api.Spot
	from, to := low.X, high.X
	for k := range n {
		y := min(low.Y+space/2+k*space, high.Y)
		l = append(l, turned(api.Spot{X: from, Y: y}), turned(api.Spot{X: to, Y: y}))
		from, to = to, from
	}
	return l, api.OK
}

// Square returns an expanding square track.
func Square(s api.Spot, space, legs int) ([]api.Spot, api.Errno) {
	if !isSpot(s) || !isBetween(1, space, api.MaxLook) || !isBetween(1, legs, api.MaxTrack-1) {
		return nil, api.ErrArg
	}
	l := []api.Spot{s}
	for i := range legs {
		s = plus(s, directions[i%len(directions)], (i/2+1)*space)
		l = append(l, s)
	}
	return laid(l)
}

// Sector returns a sector track.
func Sector(s api.Spot, radius, legs int) ([]api.Spot, api.Errno) {
	if !isSpot(s) || !isBetween(1, radius, api.MaxLook) || !isBetween(1, legs, len(sector)) {
		return nil, api.ErrArg
	}
	l := []api.Spot{s}
	for i := range legs {
		l = append(l, plus(s, sector[i], radius))
	}
	return laid(l)
}

// laid returns a track, or ErrArg if one of its spots is not valid.
func laid(l []api.Spot) ([]api.Spot, api.Errno) {
	if !areSpots(l) {
		return nil, api.ErrArg
	}
	return l, api.OK
}

// plus returns the spot that is n times a move away from another one.
func plus(s api.Spot, move [2]int, n int) api.Spot {
	return api.Spot{X: s.X + n*move[0], Y: s.Y + n*move[1]}
}
