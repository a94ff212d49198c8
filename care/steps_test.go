package care_test

import (
	"math/rand"
	"slices"
	"testing"

	"cresset/api"
	"cresset/care"
)

// P11.1
func TestCheckSteps(t *testing.T) {
	free := make([]api.Step, 12)
	for _, p := range []api.Steps{
		{},
		{Start: []int{}, Steps: []api.Step{}, Orders: []api.Order{}},
		starting(plan(nil), 0), starting(plan(nil), 15), starting(plan(nil), all()...),
		plan(nil, free...),
		plan(manyOrders(100), free...),
		plan(order(0, 1, 0, 1, 0, 2, 1, 2), free...),
		plan(order(1, 0), free[:2]...),
		plan(order(11, 0, 10, 0, 11, 10), free...),
		plan(order(0, 1, 1, 2, 2, 3, 3, 4, 4, 5, 5, 6, 6, 7, 7, 8, 8, 9, 9, 10, 10, 11, 0, 11), free...),
		plan(nil, api.Step{Needs: all(), Adds: facts(0, 2, 15), Takes: facts(1, 3, 14)}),
		plan(nil, needs(0, 15), adds(all()...), takes(all()...)),
		plan(nil, adds(3), takes(3)),
		plan(nil, api.Step{Needs: facts(3), Adds: facts(3)}, api.Step{Needs: facts(4), Takes: facts(4)}),
	} {
		if !care.CheckSteps(p) {
			t.Errorf("%v is not valid", p)
		}
	}
}

// P11.1
func TestWrongSteps(t *testing.T) {
	for _, p := range wrongPlans() {
		if care.CheckSteps(p) {
			t.Errorf("%v is valid", p)
		}
		if step, fact, e := care.Sound(p); step != -1 || fact != -1 || e != api.ErrArg {
			t.Errorf("Sound of %v: %d, %d, error %d", p, step, fact, e)
		}
		if l, e := care.Ends(p); len(l) > 0 || e != api.ErrArg {
			t.Errorf("Ends of %v: %v, error %d", p, l, e)
		}
		if l, e := care.Row(p); len(l) > 0 || e != api.ErrArg {
			t.Errorf("Row of %v: %v, error %d", p, l, e)
		}
	}
}

// P11.1
func TestSound(t *testing.T) {
	for _, c := range []struct {
		name       string
		plan       api.Steps
		step, fact int
	}{
		{"nothing", plan(nil), -1, -1},
		{"an example", plan(nil, adds(0), needs(0)), 1, 0},
		{"the same with an order", plan(order(0, 1), adds(0), needs(0)), -1, -1},
		{"with a step that takes it", plan(order(0, 1), adds(0), needs(0), takes(0)), 1, 0},
		{"ahead of both", plan(order(0, 1, 2, 0), adds(0), needs(0), takes(0)), -1, -1},
		{"between both", plan(order(0, 2, 2, 1), adds(0), needs(0), takes(0)), 1, 0},
		{"behind both", plan(order(0, 1, 1, 2), adds(0), needs(0), takes(0)), -1, -1},
		{"from the start", starting(plan(nil, needs(3, 15)), 3, 15), -1, -1},
		{"not from the start", starting(plan(nil, needs(3, 14)), 3, 15), 0, 14},
		{"not by the step itself", plan(nil, api.Step{Needs: facts(4), Adds: facts(4)}), 0, 4},
		{"before the step itself takes it", starting(plan(nil, api.Step{Needs: facts(4), Takes: facts(4)}), 4), -1, -1},
		{"taken by the first of two", starting(plan(nil, api.Step{Needs: facts(4), Takes: facts(4)}, needs(4)), 4), 1, 4},
		{"two that take what each needs", starting(plan(nil, api.Step{Needs: facts(4), Takes: facts(4)}, api.Step{Needs: facts(4), Takes: facts(4)}), 4), 0, 4},
		{"a relay", plan(order(0, 1, 1, 2), adds(0), api.Step{Needs: facts(0), Adds: facts(1), Takes: facts(0)}, needs(1)), -1, -1},
		{"the first one by its index", plan(order(2, 1, 1, 0), needs(5), needs(6), needs(7)), 0, 5},
		{"behind one that is met", starting(plan(nil, needs(5), needs(5, 6, 7)), 5, 7), 1, 6},
		{"the first one of its needs", starting(plan(nil, takes(2, 9), needs(1, 2, 9)), 1, 2, 9), 1, 2},
		{"a need of one row alone, and one of all rows", starting(plan(nil, needs(1), takes(1), needs(7)), 1), 0, 1},
		{"one of two that add it", plan(order(0, 2), adds(1), adds(1), needs(1)), -1, -1},
		{"taken between two that add it", plan(order(0, 1, 2, 3, 1, 3), adds(1), takes(1), adds(1), needs(1)), 3, 1},
		{"added again behind what takes it", plan(order(0, 1, 1, 2, 2, 3), adds(1), takes(1), adds(1), needs(1)), -1, -1},
		{"ahead by an order over others", plan(order(0, 3, 3, 4, 4, 1), adds(1), needs(1), api.Step{}, api.Step{}, api.Step{}), -1, -1},
		{"an order from the greater index", plan(order(1, 0), needs(1), adds(1)), -1, -1},
		{"a step that is free", starting(plan(order(0, 1), needs(1), needs(1), takes(1)), 1), 0, 1},
		{"the last fact", plan(nil, adds(15), needs(15)), 1, 15},
	} {
		want := api.OK
		if c.step >= 0 {
			want = api.ErrState
		}
		if step, fact, e := care.Sound(c.plan); step != c.step || fact != c.fact || e != want {
			t.Errorf("%s: %d, %d, error %d", c.name, step, fact, e)
		}
	}
}

// P11.1
func TestEnds(t *testing.T) {
	for _, c := range []struct {
		name string
		plan api.Steps
		want []int
	}{
		{"nothing", plan(nil), nil},
		{"the start", starting(plan(nil), 3, 7), facts(3, 7)},
		{"all", starting(plan(nil, needs(2)), all()...), all()},
		{"what is added and taken", starting(plan(nil, api.Step{Adds: facts(0, 15), Takes: facts(3)}), 3, 7), facts(0, 7, 15)},
		{"in either order", plan(nil, adds(1, 2), takes(2)), facts(1)},
		{"added behind", plan(order(1, 0), adds(1, 2), takes(2)), facts(1, 2)},
		{"taken behind", plan(order(0, 1), adds(1, 2), takes(2)), facts(1)},
		{"needs do not count", plan(nil, needs(5), adds(1)), facts(1)},
		{"two that add it, one behind what takes it", plan(order(1, 2), adds(4), takes(4), adds(4)), facts(4)},
		{"two that take it, one ahead", starting(plan(order(0, 1), takes(4), adds(4), takes(4)), 4), nil},
	} {
		if l, e := care.Ends(c.plan); !slices.Equal(l, c.want) || e != api.OK {
			t.Errorf("%s: %v, error %d", c.name, l, e)
		}
	}
}

// P11.1
func TestRow(t *testing.T) {
	free := make([]api.Step, 12)
	for _, c := range []struct {
		name   string
		steps  int
		orders []api.Order
		want   []int
	}{
		{"nothing", 0, nil, nil},
		{"one", 1, nil, facts(0)},
		{"no orders", 12, nil, facts(0, 1, 2, 3, 4, 5, 6, 7, 8, 9, 10, 11)},
		{"an order that it has anyway", 3, order(0, 2), facts(0, 1, 2)},
		{"the first one last", 3, order(2, 0), facts(1, 2, 0)},
		{"back as soon as it can be", 4, order(1, 0), facts(1, 0, 2, 3)},
		{"number by number", 4, order(3, 0, 2, 1), facts(2, 1, 3, 0)},
		{"backwards", 4, order(3, 2, 2, 1, 1, 0), facts(3, 2, 1, 0)},
		{"the same order often", 3, order(2, 0, 2, 0, 2, 1, 2, 0), facts(2, 0, 1)},
		{"all behind the last one", 12, order(11, 0), facts(1, 2, 3, 4, 5, 6, 7, 8, 9, 10, 11, 0)},
	} {
		if l, e := care.Row(plan(c.orders, free[:c.steps]...)); !slices.Equal(l, c.want) || e != api.OK {
			t.Errorf("%s: %v, error %d", c.name, l, e)
		}
	}
}

// P11.1: with twelve steps that are free there are too many rows to go through them.
func TestManyRows(t *testing.T) {
	steps := []api.Step{adds(0), takes(1), adds(2), takes(2), adds(3), adds(3), api.Step{Needs: facts(0)}, takes(5), adds(6), takes(6), adds(6), needs(4)}
	p := starting(plan(nil, steps...), 0, 1, 3, 4, 5)
	for range 20 {
		if step, fact, e := care.Sound(p); step != -1 || fact != -1 || e != api.OK {
			t.Fatalf("%d, %d, error %d", step, fact, e)
		}
	}
	if l, e := care.Ends(p); !slices.Equal(l, facts(0, 3, 4)) || e != api.OK {
		t.Errorf("%v, error %d", l, e)
	}
	p.Steps = append(slices.Clone(steps[:11]), needs(4, 5))
	if step, fact, e := care.Sound(p); step != 11 || fact != 5 || e != api.ErrState {
		t.Errorf("%d, %d, error %d", step, fact, e)
	}
	p.Orders = order(11, 7)
	if step, fact, e := care.Sound(p); step != -1 || fact != -1 || e != api.OK {
		t.Errorf("%d, %d, error %d", step, fact, e)
	}
}

// P11.1, P11.6: against all rows of each plan.
func TestAllRows(t *testing.T) {
	random := rand.New(rand.NewSource(11))
	sound := 0
	for range 6000 {
		p := somePlan(random)
		rows := modelRows(p)
		if valid := modelCheckSteps(p); care.CheckSteps(p) != valid || valid != (len(rows) > 0) {
			t.Fatalf("%v is valid: %v, with %d rows", p, care.CheckSteps(p), len(rows))
		}
		if len(rows) == 0 {
			continue
		}
		wantStep, wantFact, wantError := modelSound(p, rows)
		if wantError == api.OK {
			sound++
		}
		if step, fact, e := care.Sound(p); step != wantStep || fact != wantFact || e != wantError {
			t.Fatalf("Sound of %v: %d, %d, error %d", p, step, fact, e)
		}
		if l, e := care.Ends(p); !slices.Equal(l, modelEnds(p, rows)) || e != api.OK {
			t.Fatalf("Ends of %v: %v, error %d", p, l, e)
		}
		if l, e := care.Row(p); !slices.Equal(l, slices.MinFunc(rows, slices.Compare)) || e != api.OK {
			t.Fatalf("Row of %v: %v, error %d", p, l, e)
		}
	}
	if sound < 1000 || sound > 5000 {
		t.Errorf("%d plans are sound", sound)
	}
}
