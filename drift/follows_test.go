package drift_test

import (
	"math/rand"
	"testing"

	"cresset/api"
	"cresset/drift"
)

// between returns a number from low to high.
func between(random *rand.Rand, low, high int) int {
	return low + random.Intn(high-low+1)
}

// someSpeed returns a speed that a cell's flows allow.
func someSpeed(random *rand.Rand, l []api.Flow, c api.Cell, time int) (api.Spot, bool) {
	low, high, known := speedsAt(l, c, time)
	if !known {
		return api.Spot{}, false
	}
	return api.Spot{X: between(random, low.X, high.X), Y: between(random, low.Y, high.Y)}, true
}

// someMove returns by how many metres something can move in a step, rounded to one side or the other, and whether that is known.
func (s sea) someMove(random *rand.Rand, c api.Cell, side, time int) (api.Spot, bool) {
	uv, known := someSpeed(random, s.w.Currents, c, time)
	ab, knows := someSpeed(random, s.w.Winds, c, time)
	if !known || !knows {
		return api.Spot{}, false
	}
	along, across := between(random, s.d.DownLow, s.d.DownHigh), between(random, s.d.CrossLow, s.d.CrossHigh)
	if side == api.ToRight {
		across = -across
	}
	round := func(n int) int {
		if random.Intn(2) == 0 {
			return down(n, s.seconds)
		}
		return -down(-n, s.seconds)
	}
	return api.Spot{X: round(1000*uv.X + along*ab.X - across*ab.Y), Y: round(1000*uv.Y + along*ab.Y + across*ab.X)}, true
}

// cellAt returns the cell of a place.
func (s sea) cellAt(x, y int) (api.Cell, bool) {
	if x < 0 || y < 0 || x >= s.g.W*s.g.Size || y >= s.g.H*s.g.Size {
		return api.Cell{}, false
	}
	return api.Cell{X: x / s.g.Size, Y: y / s.g.Size}, true
}

// someCell returns a cell of a region that is not empty.
func someCell(random *rand.Rand, r []api.Run) api.Cell {
	run := r[random.Intn(len(r))]
	return api.Cell{X: between(random, run.From, run.To-1), Y: run.Y}
}

// P4.7: nothing is lost by a step.
func TestNothingIsLost(t *testing.T) {
	random := rand.New(rand.NewSource(8))
	landed, gone := 0, 0
	for range 1500 {
		s := someSea(random)
		p := s.somePatch(random)
		q, e := s.doStep(p)
		if e != api.OK {
			continue
		}
		land := setOf(s.g.Land)
		to, beached := []set{setOf(q.Left), setOf(q.Right)}, setOf(q.Beached)
		for side, r := range [][]api.Run{p.Left, p.Right} {
			for range 20 {
				if len(r) == 0 {
					break
				}
				c := someCell(random, r)
				move, known := s.someMove(random, c, side, p.Time)
				if !known {
					t.Fatalf("%+v, %+v: not known", s, p)
				}
				x, y := c.X*s.g.Size+random.Intn(s.g.Size), c.Y*s.g.Size+random.Intn(s.g.Size)
				for part := range 9 {
					on, ok := s.cellAt(x+move.X*part/8, y+move.Y*part/8)
					if ok && land[on] {
						landed++
						if !beached[on] {
							t.Fatalf("%+v, %+v: what lands in %v is lost", s, p, on)
						}
					}
				}
				there, ok := s.cellAt(x+move.X, y+move.Y)
				if !ok {
					gone++
				}
				if !ok && !q.Off || ok && !land[there] && (!to[side][there] || s.d.Jibes && !to[1-side][there]) {
					t.Fatalf("%+v, %+v: what moves to %v is lost", s, p, there)
				}
			}
		}
		for c := range setOf(p.Beached) {
			if !beached[c] {
				t.Fatalf("%+v, %+v: what is beached is lost", s, p)
			}
		}
		if p.Off && !q.Off {
			t.Fatalf("%+v, %+v: what is off is lost", s, p)
		}
	}
	if landed < 1000 || gone < 1000 {
		t.Errorf("%d landed, %d are off the grid", landed, gone)
	}
}

// wider returns a sea whose bounds are wider.
func (s sea) wider(random *rand.Rand) sea {
	widened := func(l []api.Flow) []api.Flow {
		var out []api.Flow
		for _, f := range l {
			f.Low.X, f.Low.Y = max(f.Low.X-random.Intn(1000), -api.MaxRate), max(f.Low.Y-random.Intn(1000), -api.MaxRate)
			f.High.X, f.High.Y = min(f.High.X+random.Intn(1000), api.MaxRate), min(f.High.Y+random.Intn(1000), api.MaxRate)
			out = append(out, f)
		}
		return out
	}
	s.w = api.Flows{Currents: widened(s.w.Currents), Winds: append(widened(s.w.Winds), someFlows(random, s.g, true, 5000)...)}
	s.d.DownLow, s.d.CrossLow = random.Intn(s.d.DownLow+1), random.Intn(s.d.CrossLow+1)
	s.d.DownHigh, s.d.CrossHigh = between(random, s.d.DownHigh, api.MaxLeeway), between(random, s.d.CrossHigh, api.MaxLeeway)
	return s
}

// P4.7: a greater patch, and wider bounds, lead to no less.
func TestGreaterLeadsToNoLess(t *testing.T) {
	random := rand.New(rand.NewSource(9))
	for range 800 {
		s := someSea(random)
		p, more := s.somePatch(random), s.somePatch(random)
		more.Time = p.Time
		more = must(t)(drift.Join(s.g, p, more))
		q, e := s.doStep(p)
		if e != api.OK {
			continue
		}
		if to, e := s.doStep(more); e == api.OK && !covers(to, q) {
			t.Fatalf("%+v, %+v, %+v: the greater patch leads to less", s, p, more)
		}
		if to := must(t)(s.wider(random).doStep(p)); !covers(to, q) {
			t.Fatalf("%+v, %+v: wider bounds lead to less", s, p)
		}
	}
}

// P4.7: what a step leads from p to q is in Before of q.
func TestBeforeHasWhatLedThere(t *testing.T) {
	random := rand.New(rand.NewSource(10))
	for range 800 {
		s := someSea(random)
		p := s.somePatch(random)
		for _, r := range []*[]api.Run{&p.Left, &p.Right} {
			if len(*r) > 0 {
				c := someCell(random, *r)
				*r = cell(c.X, c.Y)
			}
		}
		q, e := s.doStep(p)
		if e != api.OK {
			continue
		}
		from, e := s.doBefore(q)
		if e != api.OK {
			continue
		}
		for side, r := range [][]api.Run{p.Left, p.Right} {
			to := [][]api.Run{q.Left, q.Right}[side]
			one, e := s.doStep(api.Patch{Time: p.Time, Left: [][]api.Run{r, nil}[side], Right: [][]api.Run{nil, r}[side]})
			leads := e == api.OK && len(one.Left)+len(one.Right)+len(one.Beached) > 0
			if leads && !hasAll([][]api.Run{from.Left, from.Right}[side], r) {
				t.Fatalf("%+v, %+v: %v of the side %d led to %v", s, p, r, side, to)
			}
		}
		if !hasAll(from.Beached, p.Beached) {
			t.Fatalf("%+v, %+v: what was beached before", s, p)
		}
	}
}

// way is where something was after each step: a cell of one of the three regions.
type way []struct {
	c    api.Cell
	part int
}

// goOn adds a step to a way, and reports whether there is one on the grid.
func (s sea) goOn(random *rand.Rand, w way, time int) (way, bool) {
	last := w[len(w)-1]
	if last.part == 2 {
		return append(w, last), true
	}
	one := api.Patch{Time: time}
	*[]*[]api.Run{&one.Left, &one.Right}[last.part] = cell(last.c.X, last.c.Y)
	next, e := s.doStep(one)
	var parts []int
	for part, r := range [][]api.Run{next.Left, next.Right, next.Beached} {
		if len(r) > 0 {
			parts = append(parts, part)
		}
	}
	if e != api.OK || len(parts) == 0 {
		return w, false
	}
	last.part = parts[random.Intn(len(parts))]
	last.c = someCell(random, [][]api.Run{next.Left, next.Right, next.Beached}[last.part])
	return append(w, last), true
}

// P4.7: what goes from one patch to another one is in all patches between them.
func TestBetweenHasTheWay(t *testing.T) {
	random := rand.New(rand.NewSource(11))
	long := 0
	for range 1500 {
		s := someSea(random)
		from := s.somePatch(random)
		if len(from.Left) == 0 {
			continue
		}
		w := make(way, 1)
		w[0].c = someCell(random, from.Left)
		for ok := true; ok && len(w) < 6; {
			w, ok = s.goOn(random, w, from.Time+(len(w)-1)*s.seconds)
		}
		last := w[len(w)-1]
		to := s.somePatch(random)
		to.Time = from.Time + (len(w)-1)*s.seconds
		there := api.Patch{Time: to.Time}
		*[]*[]api.Run{&there.Left, &there.Right, &there.Beached}[last.part] = cell(last.c.X, last.c.Y)
		to = must(t)(drift.Join(s.g, to, there))
		l, e := drift.Between(s.g, s.w, s.d, from, to, s.seconds)
		if !s.isKnown(from.Time, len(w)) {
			continue
		}
		if e != api.OK || len(l) != len(w) {
			t.Fatalf("%+v, %+v, %+v: %v", s, from, to, e)
		}
		for i, at := range w {
			if !setOf([][]api.Run{l[i].Left, l[i].Right, l[i].Beached}[at.part])[at.c] {
				t.Fatalf("%+v, %+v, %+v: %v is not in the patch %d", s, from, to, at, i)
			}
		}
		if len(w) > 3 {
			long++
		}
	}
	if long < 100 {
		t.Errorf("%d long ways", long)
	}
}

// isKnown reports whether the pushes of all of the sea are known at the times of some steps.
func (s sea) isKnown(time, steps int) bool {
	for i := range steps {
		for c := range setOf(all(s.g)).without(setOf(s.g.Land)) {
			if _, known := s.pushAt(c, api.ToLeft, time+i*s.seconds); !known {
				return false
			}
		}
	}
	return true
}
