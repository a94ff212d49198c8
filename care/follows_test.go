package care_test

import (
	"math/rand"
	"reflect"
	"slices"
	"testing"

	"cresset/api"
	"cresset/care"
)

// greatPlan is a valid plan of many steps.
func greatPlan(random *rand.Rand) api.Steps {
	for {
		if p := someSteps(random, 8+random.Intn(5), random.Intn(40)); modelCheckSteps(p) {
			return p
		}
	}
}

// someRow is a row of a plan.
func someRow(random *rand.Rand, p api.Steps) []int {
	before := modelBefore(p)
	var row []int
	for len(row) < len(p.Steps) {
		s := random.Intn(len(p.Steps))
		ready := !slices.Contains(row, s)
		for other := range p.Steps {
			ready = ready && (!before[other][s] || slices.Contains(row, other))
		}
		if ready {
			row = append(row, s)
		}
	}
	return row
}

// isMet reports whether a fact would surely be met if a step needed it, and nothing else were needed.
func isMet(t *testing.T, p api.Steps, step, fact int) bool {
	t.Helper()
	alone := api.Steps{Start: p.Start, Orders: p.Orders}
	for _, s := range p.Steps {
		alone.Steps = append(alone.Steps, api.Step{Adds: s.Adds, Takes: s.Takes})
	}
	alone.Steps[step].Needs = facts(fact)
	gotStep, gotFact, e := care.Sound(alone)
	if e == api.OK && gotStep == -1 && gotFact == -1 {
		return true
	}
	if e != api.ErrState || gotStep != step || gotFact != fact {
		t.Fatalf("Sound of %v: %d, %d, error %d", alone, gotStep, gotFact, e)
	}
	return false
}

// P11.6: what is sure is so in whichever row; what is not fails in one of them.
func TestAnyOrder(t *testing.T) {
	random := rand.New(rand.NewSource(12))
	sound := 0
	for range 300 {
		p := greatPlan(random)
		for i := range p.Steps { // so that some plans are sound
			p.Steps[i].Needs = slices.DeleteFunc(p.Steps[i].Needs, func(f int) bool { return random.Intn(12) > 0 && !isMet(t, p, i, f) })
		}
		step, fact, e := care.Sound(p)
		if e == api.OK {
			sound++
		}
		ends, _ := care.Ends(p)
		for range 40 {
			row := someRow(random, p)
			end := modelDone(p, row, func(s int, holds map[int]bool) {
				for _, f := range p.Steps[s].Needs {
					if !holds[f] && (e == api.OK || s < step || s == step && f < fact) {
						t.Fatalf("%v: the need %d of %d is not met in %v", p, f, s, row)
					}
				}
			})
			for _, f := range ends {
				if !end[f] {
					t.Fatalf("%v: %d does not hold behind %v", p, f, row)
				}
			}
		}
	}
	if sound < 50 || sound > 250 {
		t.Errorf("%d plans are sound", sound)
	}
}

// P11.6: the row in which a need is not met, for plans that have few rows.
func TestSomeRowMisses(t *testing.T) {
	random := rand.New(rand.NewSource(13))
	missed := 0
	for range 3000 {
		p := somePlan(random)
		step, fact, e := care.Sound(p)
		if e != api.ErrState {
			continue
		}
		missed++
		if !slices.ContainsFunc(modelRows(p), func(row []int) bool {
			found := false
			modelDone(p, row, func(s int, holds map[int]bool) { found = found || s == step && !holds[fact] })
			return found
		}) || !slices.Contains(p.Steps[step].Needs, fact) {
			t.Fatalf("%v: %d, %d, but it is met in all rows", p, step, fact)
		}
	}
	if missed < 500 {
		t.Errorf("%d needs are not met", missed)
	}
}

// P11.7
func TestMoreOrders(t *testing.T) {
	random := rand.New(rand.NewSource(14))
	better := 0
	for range 300 {
		p := greatPlan(random)
		more := p
		row := someRow(random, p)
		for range 1 + random.Intn(20) {
			a, b := random.Intn(len(row)), random.Intn(len(row))
			if a < b {
				more.Orders = append(slices.Clone(more.Orders), api.Order{A: row[a], B: row[b]})
			}
		}
		for range 20 {
			step, fact := random.Intn(len(p.Steps)), random.Intn(api.MaxFacts)
			before, after := isMet(t, p, step, fact), isMet(t, more, step, fact)
			if before && !after {
				t.Fatalf("%v: %d of %d is met; with %v it is not", p, fact, step, more.Orders)
			}
			if after && !before {
				better++
			}
		}
		_, _, e := care.Sound(p)
		if _, _, f := care.Sound(more); e == api.OK && f != api.OK {
			t.Fatalf("%v is sound; with %v it is not", p, more.Orders)
		}
		ends, _ := care.Ends(p)
		moreEnds, _ := care.Ends(more)
		for _, f := range ends {
			if !slices.Contains(moreEnds, f) {
				t.Fatalf("%v: %d ends; with %v it does not", p, f, more.Orders)
			}
		}
	}
	if better == 0 {
		t.Error("orders make nothing better")
	}
}

// P1: no numbers make a call panic, and beside an error there is nothing.
func TestAnyNumbers(t *testing.T) {
	random := rand.New(rand.NewSource(15))
	number := func() int {
		switch random.Intn(4) {
		case 0:
			return random.Intn(20) - 2
		case 1:
			return []int{huge, small, 1 << 62, -1 << 62, 1 << 32, 1 << 31, 63, 64, 65}[random.Intn(9)]
		case 2:
			return int(random.Uint64()) >> random.Intn(64)
		}
		return random.Intn(14)
	}
	list := func() []int {
		l := make([]int, random.Intn(4))
		for i := range l {
			l[i] = number()
		}
		slices.Sort(l)
		return l
	}
	fill := func(numbers []*int) {
		for _, n := range numbers {
			*n = number()
		}
	}
	for range 20000 {
		var p api.Steps
		for range random.Intn(4) {
			p.Steps = append(p.Steps, api.Step{Needs: list(), Adds: list(), Takes: list()})
			p.Orders = append(p.Orders, api.Order{A: number(), B: number()})
		}
		_, _, soundError := care.Sound(p)
		if row, e := care.Row(p); care.CheckSteps(p) != (e == api.OK) || e == api.ErrArg && len(row) > 0 || (soundError == api.ErrArg) != (e == api.ErrArg) {
			t.Fatalf("%v: %v, error %d", p, row, e)
		}
		var w api.Winch
		fill(winchNumbers(&w))
		if l, e := care.Lift(w); e != api.OK && len(l) > 0 {
			t.Fatalf("%v: %v, error %d", w, l, e)
		}
		var x api.Tow
		fill(towNumbers(&x))
		if v, e := care.Speed(x); e != api.OK && v != 0 {
			t.Fatalf("%v: %d, error %d", x, v, e)
		}
		h, tank := api.Hull{Tons: number(), Meta: number(), Centre: number()}, api.Tank{}
		fill([]*int{&tank.Long, &tank.Wide, &tank.Deep, &tank.Floor})
		if n, e := care.Stability(h, []api.Tank{tank}); e != api.OK && n != 0 {
			t.Fatalf("%v, %v: %d, error %d", h, tank, n, e)
		}
		if l, e := care.Drain(h, []api.Tank{tank}, number()); e != api.OK && len(l) > 0 {
			t.Fatalf("%v, %v: %v, error %d", h, tank, l, e)
		}
		var g api.Ground
		fill([]*int{&g.Draught, &g.Depth, &g.TonsPerCm, &g.Pull, &g.Friction})
		if first, last, e := care.Float(g, tide(number(), number(), number(), number()), number()); e != api.OK && (first != 0 || last != 0) {
			t.Fatalf("%v: %d, %d, error %d", g, first, last, e)
		}
	}
}

// P11.1 to P11.5: arguments stay, results are their own.
func TestMemory(t *testing.T) {
	p := starting(plan(order(2, 0), api.Step{Needs: facts(3), Adds: facts(1, 4)}, takes(9), needs(3, 4)), 3, 4, 9)
	tanks, points := []api.Tank{deck, deck, deck}, day()
	arguments := func() []any {
		steps := slices.Clone(p.Steps)
		for i, s := range steps {
			steps[i] = api.Step{Needs: slices.Clone(s.Needs), Adds: slices.Clone(s.Adds), Takes: slices.Clone(s.Takes)}
		}
		return []any{slices.Clone(p.Start), steps, slices.Clone(p.Orders), slices.Clone(tanks), slices.Clone(points)}
	}
	before := arguments()
	for name, call := range map[string]func() []int{
		"Ends":  func() []int { l, _ := care.Ends(p); return l },
		"Row":   func() []int { l, _ := care.Row(p); return l },
		"Lift":  func() []int { l, _ := care.Lift(api.Winch{Swing: 9, Load: 1, Period: 1}); return l },
		"Drain": func() []int { l, _ := care.Drain(ship, tanks, 60); return l },
		"the others": func() []int {
			care.CheckSteps(p)
			step, fact, _ := care.Sound(p)
			n, _ := care.Stability(ship, tanks)
			first, last, _ := care.Float(aground(), points, 5)
			return []int{step, fact, n, first, last}
		},
	} {
		want := call()
		if len(want) == 0 {
			t.Errorf("%s: nothing", name)
		}
		other := call()
		if !slices.Equal(want, other) {
			t.Errorf("%s: %v, then %v", name, want, other)
		}
		clear(other)
		if got := call(); !slices.Equal(got, want) {
			t.Errorf("%s: %v becomes %v", name, want, got)
		}
		if !reflect.DeepEqual(arguments(), before) {
			t.Errorf("%s has changed its arguments", name)
		}
	}
}
