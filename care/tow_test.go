package care_test

import (
	"math/rand"
	"testing"

	"cresset/api"
	"cresset/care"
)

// tow is the tow of the chapter's examples.
func tow() api.Tow {
	return api.Tow{Pull: 100, Line: 400, Drag: 2500, Push: 10, Length: 400, Wave: 5}
}

// towNumbers are the numbers of a tow.
func towNumbers(t *api.Tow) []*int {
	return []*int{&t.Pull, &t.Line, &t.Drag, &t.Push, &t.Length, &t.Wave}
}

// P11.3
func TestSpeed(t *testing.T) {
	most := api.MaxForces
	for _, c := range []struct {
		name string
		tow  api.Tow
		want int
		e    api.Errno
	}{
		{"the example", tow(), 600, api.OK},
		{"with a little more drag", changed(tow(), func(t *api.Tow) { t.Drag++ }), 599, api.OK},
		{"with a little less drag", changed(tow(), func(t *api.Tow) { t.Drag = 2492 }), 600, api.OK},
		{"with less drag", changed(tow(), func(t *api.Tow) { t.Drag = 2491 }), 601, api.OK},
		{"a line that just bears it", changed(tow(), func(t *api.Tow) { t.Line = 200 }), 600, api.OK},
		{"a line that does not", changed(tow(), func(t *api.Tow) { t.Line = 199 }), 598, api.OK},
		{"a strong tug", changed(tow(), func(t *api.Tow) { t.Pull = most }), 871, api.OK},
		{"a longer line", changed(tow(), func(t *api.Tow) { t.Length = most }), 600, api.OK},
		{"a line too short", changed(tow(), func(t *api.Tow) { t.Length = 99 }), 0, api.ErrNone},
		{"a line that is long enough", changed(tow(), func(t *api.Tow) { t.Length = 100 }), 600, api.OK},
		{"waves too high", changed(tow(), func(t *api.Tow) { t.Wave = 21 }), 0, api.ErrNone},
		{"waves that are as high as they may be", changed(tow(), func(t *api.Tow) { t.Wave = 20 }), 600, api.OK},
		{"no waves, no line's length", changed(tow(), func(t *api.Tow) { t.Wave, t.Length = 0, 0 }), 600, api.OK},
		{"a wind that just holds the tug", changed(tow(), func(t *api.Tow) { t.Push = 100 }), 0, api.OK},
		{"a wind too strong for the tug", changed(tow(), func(t *api.Tow) { t.Push = 101 }), 0, api.ErrNone},
		{"a wind that the line just bears", changed(tow(), func(t *api.Tow) { t.Pull, t.Push = most, 200 }), 0, api.OK},
		{"a wind that it does not bear", changed(tow(), func(t *api.Tow) { t.Pull, t.Push = most, 201 }), 0, api.ErrNone},
		{"an odd line", changed(tow(), func(t *api.Tow) { t.Pull, t.Push, t.Line = most, 200, 401 }), 44, api.OK},
		{"an odd line that does not bear it", changed(tow(), func(t *api.Tow) { t.Pull, t.Push, t.Line = most, 200, 399 }), 0, api.ErrNone},
		{"no force at all", api.Tow{Drag: 1}, 0, api.OK},
		{"no line", changed(tow(), func(t *api.Tow) { t.Line = 0 }), 0, api.ErrNone},
		{"no line, no wind", changed(tow(), func(t *api.Tow) { t.Line, t.Push = 0, 0 }), 0, api.OK},
		{"not more than 2000", api.Tow{Pull: most, Line: most, Drag: 1}, 2000, api.OK},
		{"just 2000", api.Tow{Pull: 100, Line: 200, Drag: 250}, 2000, api.OK},
		{"just not 2000", api.Tow{Pull: 100, Line: 200, Drag: 251}, 1996, api.OK},
		{"a part of 1 N too much at 1826", api.Tow{Pull: 1, Line: 2, Drag: 3}, 1825, api.OK},
		{"a part of 1 N too much for the line", api.Tow{Pull: 2, Line: 2, Drag: 3}, 1825, api.OK},
		{"the greatest numbers", api.Tow{Pull: most, Line: most, Drag: most, Push: most / 2, Length: most, Wave: most / 20}, 0, api.OK},
		{"the greatest numbers without wind", api.Tow{Pull: most, Line: most, Drag: most, Length: most, Wave: most / 20}, 2000, api.OK},
		{"all the greatest", api.Tow{Pull: most, Line: most, Drag: most, Push: most, Length: most, Wave: most}, 0, api.ErrNone},
	} {
		if v, e := care.Speed(c.tow); v != c.want || e != c.e {
			t.Errorf("%s: %d, error %d", c.name, v, e)
		}
	}
}

// P11.3
func TestSpeedErrors(t *testing.T) {
	check := func(x api.Tow) {
		t.Helper()
		if v, e := care.Speed(x); v != 0 || e != api.ErrArg {
			t.Errorf("%+v: %d, error %d", x, v, e)
		}
	}
	for i := range towNumbers(&api.Tow{}) {
		for _, n := range outside(0, api.MaxForces) {
			check(changed(tow(), func(t *api.Tow) { *towNumbers(t)[i] = n }))
			check(changed(api.Tow{Drag: 1, Push: 5, Wave: 7}, func(t *api.Tow) { *towNumbers(t)[i] = n }))
		}
	}
	check(changed(tow(), func(t *api.Tow) { t.Drag = 0 }))
	check(api.Tow{})
}

// someTow is a tow, often with a speed that is neither 0 nor 2000.
func someTow(random *rand.Rand) api.Tow {
	pull := 1 + random.Intn(1<<random.Intn(17))
	x := api.Tow{Pull: pull, Line: random.Intn(4*pull + 1), Drag: 1 + random.Intn(1<<random.Intn(17)), Push: random.Intn(pull + 1)}
	x.Line = min(x.Line, api.MaxForces)
	x.Wave = random.Intn(20)
	x.Length = max(0, 20*x.Wave+random.Intn(50)-2)
	return x
}

// P11.3, P11.8: each speed up to the greatest one is possible, and none above it.
func TestSpeedIsAsTheChapterSays(t *testing.T) {
	random := rand.New(rand.NewSource(2))
	between := 0
	for range 400 {
		x := someTow(random)
		v, e := care.Speed(x)
		if x.Length < 20*x.Wave || !modelPossible(x, 0) {
			if v != 0 || e != api.ErrNone {
				t.Fatalf("%+v: %d, error %d", x, v, e)
			}
			continue
		}
		if e != api.OK || v < 0 || v > 2000 || v < 2000 && modelPossible(x, v+1) {
			t.Fatalf("%+v: %d, error %d", x, v, e)
		}
		for slower := range v + 1 {
			if !modelPossible(x, slower) {
				t.Fatalf("%+v: %d, but %d is not possible", x, v, slower)
			}
		}
		if 0 < v && v < 2000 {
			between++
		}
	}
	if between < 100 {
		t.Errorf("%d speeds are between", between)
	}
}

// P11.8
func TestSpeedFollows(t *testing.T) {
	random := rand.New(rand.NewSource(3))
	speed := func(x api.Tow) int { // -1, if there is none
		v, e := care.Speed(x)
		if e == api.ErrNone {
			return -1
		}
		if e != api.OK {
			t.Fatalf("%+v: error %d", x, e)
		}
		return v
	}
	more := func(n int) int { return min(n+1+random.Intn(n+10), api.MaxForces) }
	for range 5000 {
		x := someTow(random)
		v := speed(x)
		for _, better := range []func(*api.Tow){
			func(x *api.Tow) { x.Pull = more(x.Pull) },
			func(x *api.Tow) { x.Line = more(x.Line) },
			func(x *api.Tow) { x.Drag = 1 + random.Intn(x.Drag) },
			func(x *api.Tow) { x.Length = more(x.Length) },
		} {
			if y := changed(x, better); speed(y) < v {
				t.Fatalf("%+v: %d; %+v: %d", x, v, y, speed(y))
			}
		}
	}
}
