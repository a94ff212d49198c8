package care

import "cresset/api"

const (
	greatestSpeed = 2000 // cm/s
	wavesOfLine   = 20   // how many times the greatest wave's height a line has to be long
)

// Speed returns the greatest speed of a tow.
func Speed(t api.Tow) (int, api.Errno) {
	switch {
	case !isTow(t):
		return 0, api.ErrArg
	case t.Length < wavesOfLine*t.Wave:
		return 0, api.ErrNone
	}
	speed, ok := first(speeds, func(v int) bool { return isPossible(t, v) })
	if !ok {
		return 0, api.ErrNone
	}
	return speed, api.OK
}

// speeds yields the speeds that a tow may have, the greatest one first.
func speeds(yield func(v int) bool) {
	for v := greatestSpeed; v >= 0 && yield(v); v-- {
	}
}

// isPossible reports whether tug and line can bear a speed. All forces are counted in N / 10000, as then they are integers.
func isPossible(t api.Tow, v int) bool {
	force := t.Drag*v*v + 1000*t.Push*10000
	return force <= 1000*t.Pull*10000 && force <= 500*t.Line*10000
}

func isTow(t api.Tow) bool {
	return t.Drag >= 1 && areForces(t.Pull, t.Line, t.Drag, t.Push, t.Length, t.Wave)
}
