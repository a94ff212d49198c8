package care_test

import (
	"math/big"
	"math/rand"
	"slices"

	"cresset/api"
)

// What follows is the chapter's text, word by word, with numbers of any size.

// modelBefore returns for each two steps whether the first one is before the second one.
func modelBefore(p api.Steps) [][]bool {
	before := make([][]bool, len(p.Steps))
	for a := range before {
		before[a] = make([]bool, len(p.Steps))
	}
	for _, o := range p.Orders {
		before[o.A][o.B] = true
	}
	for range p.Steps { // a way from a step to another one has no more orders than there are steps
		for a := range before {
			for b := range before {
				for c := range before {
					before[a][b] = before[a][b] || before[a][c] && before[c][b]
				}
			}
		}
	}
	return before
}

// modelCheckSteps reports whether no step of a plan is before itself.
func modelCheckSteps(p api.Steps) bool {
	before := modelBefore(p)
	for a := range before {
		if before[a][a] {
			return false
		}
	}
	return true
}

// modelRows returns all rows of a plan, in no order that counts.
func modelRows(p api.Steps) [][]int {
	before := modelBefore(p)
	var rows [][]int
	var row []int
	var add func()
	add = func() {
		if len(row) == len(p.Steps) {
			rows = append(rows, slices.Clone(row))
		}
		for s := len(p.Steps) - 1; s >= 0; s-- {
			late := func(other int) bool { return before[s][other] }
			if !slices.Contains(row, s) && !before[s][s] && !slices.ContainsFunc(row, late) {
				row = append(row, s)
				add()
				row = row[:len(row)-1]
			}
		}
	}
	add()
	return rows
}

// modelDone does a plan in a row. It hands out what holds just before each step, and returns what holds at the end.
func modelDone(p api.Steps, row []int, step func(s int, holds map[int]bool)) map[int]bool {
	holds := map[int]bool{}
	for _, f := range p.Start {
		holds[f] = true
	}
	for _, s := range row {
		step(s, holds)
		for _, f := range p.Steps[s].Takes {
			holds[f] = false
		}
		for _, f := range p.Steps[s].Adds {
			holds[f] = true
		}
	}
	return holds
}

func modelSound(p api.Steps, rows [][]int) (step, fact int, e api.Errno) {
	missed := map[[2]int]bool{}
	for _, row := range rows {
		modelDone(p, row, func(s int, holds map[int]bool) {
			for _, f := range p.Steps[s].Needs {
				if !holds[f] {
					missed[[2]int{s, f}] = true
				}
			}
		})
	}
	for s := range p.Steps {
		for _, f := range p.Steps[s].Needs {
			if missed[[2]int{s, f}] {
				return s, f, api.ErrState
			}
		}
	}
	return -1, -1, api.OK
}

func modelEnds(p api.Steps, rows [][]int) []int {
	return slices.DeleteFunc(all(), func(f int) bool {
		return slices.ContainsFunc(rows, func(row []int) bool {
			return !modelDone(p, row, func(int, map[int]bool) {})[f]
		})
	})
}

// someFacts are some of a few facts, each with a chance of one in so many.
func someFacts(random *rand.Rand, few []int, one int) []int {
	return slices.DeleteFunc(slices.Clone(few), func(int) bool { return random.Intn(one) > 0 })
}

// someSteps is a plan of so many steps, and as many orders, of which a few may be against the others.
func someSteps(random *rand.Rand, steps, orders int) api.Steps {
	few := [][]int{{0, 1, 2}, {3, 9, 14, 15}, {7}, {2, 4, 6, 8, 10}}[random.Intn(4)]
	p := api.Steps{Start: someFacts(random, few, 2)}
	for range steps {
		s := api.Step{Needs: someFacts(random, few, 6), Adds: someFacts(random, few, 3)}
		free := slices.DeleteFunc(slices.Clone(few), func(f int) bool { return slices.Contains(s.Adds, f) })
		s.Takes = someFacts(random, free, 5)
		p.Steps = append(p.Steps, s)
	}
	way := random.Perm(steps)
	for range orders {
		a, b := random.Intn(steps), random.Intn(steps)
		if a < b || random.Intn(40) == 0 {
			p.Orders = append(p.Orders, api.Order{A: way[a], B: way[b]})
		}
	}
	return p
}

// somePlan is a plan with few enough rows to go through them.
func somePlan(random *rand.Rand) api.Steps {
	steps := random.Intn(7)
	if steps == 0 {
		return someSteps(random, 0, 0)
	}
	return someSteps(random, steps, random.Intn(3*steps))
}

func rat(n int) *big.Rat {
	return new(big.Rat).SetInt64(int64(n))
}

func sum(l ...*big.Rat) *big.Rat {
	n := rat(0)
	for _, x := range l {
		n.Add(n, x)
	}
	return n
}

func minus(a, b *big.Rat) *big.Rat {
	return new(big.Rat).Sub(a, b)
}

func product(l ...*big.Rat) *big.Rat {
	n := rat(1)
	for _, x := range l {
		n.Mul(n, x)
	}
	return n
}

func over(a, b *big.Rat) *big.Rat {
	return new(big.Rat).Quo(a, b)
}

func modelLift(w api.Winch) []int {
	var l []int
	against := map[int]bool{
		1: w.Hover+w.Swing > w.Cable,
		2: w.Load > w.MostLoad,
		3: w.Wind > w.MostWind,
		4: w.Hover < 3*w.Swing,
		5: 22*w.Swing > 14000*w.Period,
	}
	for n := range 10 {
		if against[n] {
			l = append(l, n)
		}
	}
	return l
}

// modelPossible reports whether a speed of a tow is possible.
func modelPossible(t api.Tow, v int) bool {
	force := sum(over(product(rat(t.Drag), rat(v), rat(v)), rat(10000)), product(rat(1000), rat(t.Push)))
	return force.Cmp(product(rat(1000), rat(t.Pull))) <= 0 && force.Cmp(product(rat(500), rat(t.Line))) <= 0
}

// modelExact returns the exact stability of a hull with the water in some tanks.
func modelExact(h api.Hull, l []api.Tank) *big.Rat {
	hull := product(rat(1000000), rat(h.Tons))
	water, moments, surfaces := rat(0), rat(0), rat(0)
	for _, t := range l {
		v := product(rat(t.Long), rat(t.Wide), rat(t.Deep))
		water = sum(water, v)
		moments = sum(moments, product(v, sum(rat(t.Floor), over(rat(t.Deep), rat(2)))))
		surfaces = sum(surfaces, over(product(rat(t.Long), rat(t.Wide), rat(t.Wide), rat(t.Wide)), rat(12)))
	}
	weight := sum(hull, water)
	centre := over(sum(product(hull, rat(h.Centre)), moments), weight)
	return minus(minus(rat(h.Meta), centre), over(surfaces, weight))
}

func modelStability(h api.Hull, l []api.Tank) int {
	exact := modelExact(h, l)
	return int(new(big.Int).Div(exact.Num(), exact.Denom()).Int64()) // the remainder is not below 0
}

// modelSets returns all sets of numbers below n, rising.
func modelSets(n int) [][]int {
	if n == 0 {
		return [][]int{nil}
	}
	less := modelSets(n - 1)
	for _, s := range less[:len(less):len(less)] {
		less = append(less, append(slices.Clone(s), n-1))
	}
	return less
}

// modelWithout returns the tanks that are not in a set.
func modelWithout(l []api.Tank, empty []int) []api.Tank {
	var full []api.Tank
	for i, t := range l {
		if !slices.Contains(empty, i) {
			full = append(full, t)
		}
	}
	return full
}

func modelDrain(h api.Hull, l []api.Tank, least int) ([]int, api.Errno) {
	var best []int
	found := false
	for _, s := range modelSets(len(l)) {
		better := !found || len(s) < len(best) || len(s) == len(best) && slices.Compare(s, best) < 0
		if better && modelStability(h, modelWithout(l, s)) >= least {
			best, found = s, true
		}
	}
	if !found {
		return nil, api.ErrNone
	}
	return best, api.OK
}

// modelHeight returns the exact height of a tide at a time between its first one and its last one.
func modelHeight(l []api.Tide, time int) *big.Rat {
	for i, p := range l {
		if p.Time == time {
			return rat(p.Height)
		}
		if p.Time > time {
			from := l[i-1]
			part := over(rat(time-from.Time), rat(p.Time-from.Time))
			return sum(rat(from.Height), product(rat(p.Height-from.Height), part))
		}
	}
	panic("a time behind the tide")
}

// modelComesOff reports whether a ship comes off at a time.
func modelComesOff(g api.Ground, l []api.Tide, time int) bool {
	missing := minus(rat(g.Draught-g.Depth), modelHeight(l, time))
	return missing.Sign() <= 0 || product(rat(g.TonsPerCm), missing, rat(g.Friction)).Cmp(product(rat(10000), rat(g.Pull))) <= 0
}

func modelFloat(g api.Ground, l []api.Tide, from int) (first, last int, e api.Errno) {
	end := l[len(l)-1].Time
	for time := from; time <= end; time++ {
		if modelComesOff(g, l, time) {
			last := time
			for last < end && modelComesOff(g, l, last+1) {
				last++
			}
			return time, last, api.OK
		}
	}
	return 0, 0, api.ErrNone
}
