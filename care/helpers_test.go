package care_test

import (
	"slices"
	"testing"

	"cresset/api"
	"cresset/care"
)

const (
	huge  = 1<<63 - 1
	small = -1 << 63
)

// outside are numbers that are not from least to most.
func outside(least, most int) []int {
	return []int{least - 1, most + 1, least - 1000, most + 1000, -1 << 40, 1 << 40, 1 << 62, small, huge}
}

// changed returns a value after a change.
func changed[T any](x T, change func(*T)) T {
	change(&x)
	return x
}

// facts is a list of facts, or of steps.
func facts(l ...int) []int {
	return l
}

// all are the facts that there are.
func all() []int {
	return facts(0, 1, 2, 3, 4, 5, 6, 7, 8, 9, 10, 11, 12, 13, 14, 15)
}

// adds is a step that adds facts.
func adds(l ...int) api.Step {
	return api.Step{Adds: l}
}

// takes is a step that takes facts.
func takes(l ...int) api.Step {
	return api.Step{Takes: l}
}

// needs is a step that needs facts.
func needs(l ...int) api.Step {
	return api.Step{Needs: l}
}

// order says for each two numbers that the first one is a step ahead of the second one.
func order(l ...int) []api.Order {
	var orders []api.Order
	for i := 0; i < len(l); i += 2 {
		orders = append(orders, api.Order{A: l[i], B: l[i+1]})
	}
	return orders
}

// plan is a plan at whose start no fact holds.
func plan(orders []api.Order, steps ...api.Step) api.Steps {
	return api.Steps{Steps: steps, Orders: orders}
}

// starting returns a plan at whose start some facts hold.
func starting(p api.Steps, l ...int) api.Steps {
	p.Start = l
	return p
}

// manyOrders are as many orders, of which each says that step 0 is ahead of step 1.
func manyOrders(n int) []api.Order {
	return slices.Repeat(order(0, 1), n)
}

// wrongFacts are no facts that strictly rise.
func wrongFacts() [][]int {
	l := [][]int{{0, 0}, {1, 0}, {3, 5, 5}, {3, 5, 4}, {0, 1, 2, 1}, {15, 15}, {15, 0}, append(all(), 16), append(all(), 15), {-1, 0}, {15, 16}, make([]int, 10000)}
	for _, n := range outside(0, 15) {
		l = append(l, []int{n}, []int{3, n})
	}
	return l
}

// wrongPlans are not valid.
func wrongPlans() []api.Steps {
	free := make([]api.Step, 12)
	l := []api.Steps{
		{Steps: make([]api.Step, 13)},
		{Steps: make([]api.Step, 1000)},
		plan(manyOrders(101), free...),
		plan(manyOrders(10000), free...),
		plan(order(0, 0), free...),
		plan(order(11, 11), free...),
		plan(order(0, 1, 1, 0), free...),
		plan(order(5, 3, 3, 4, 4, 5), free...),
		plan(order(0, 1, 1, 2, 2, 3, 3, 1), free...),
		plan(order(0, 1, 2, 3, 3, 4, 4, 2), free...),
		plan(order(0, 1, 1, 2, 2, 3, 3, 4, 4, 5, 5, 6, 6, 7, 7, 8, 8, 9, 9, 10, 10, 11, 11, 0), free...),
		plan(order(11, 10, 10, 9, 9, 8, 8, 7, 7, 6, 6, 5, 5, 4, 4, 3, 3, 2, 2, 1, 1, 0, 1, 9), free...),
		plan(order(0, 0)),
		plan(nil, api.Step{Adds: facts(3), Takes: facts(3)}),
		plan(nil, api.Step{}, api.Step{Adds: facts(0, 3, 15), Takes: facts(1, 4, 15)}),
		plan(nil, api.Step{Adds: facts(0, 3), Takes: facts(0, 4)}),
		plan(nil, api.Step{Adds: all(), Takes: facts(7)}),
	}
	for _, wrong := range wrongFacts() {
		l = append(l, starting(plan(nil), wrong...), starting(plan(nil, needs(1)), wrong...))
		for _, s := range []api.Step{{Needs: wrong}, {Adds: wrong}, {Takes: wrong}, {Needs: facts(0), Adds: facts(1), Takes: wrong}} {
			l = append(l, plan(nil, s), plan(nil, api.Step{}, s), plan(order(1, 0), api.Step{}, s))
		}
	}
	for steps := range 13 {
		for _, n := range outside(0, steps-1) {
			l = append(l, plan(order(n, 0), free[:steps]...), plan(order(0, n), free[:steps]...), plan(order(n, n), free[:steps]...))
		}
	}
	return l
}

// checkShip checks the error of Stability and of Drain, whose results have to be zero.
func checkShip(t *testing.T, h api.Hull, l []api.Tank, want api.Errno) {
	t.Helper()
	if n, e := care.Stability(h, l); n != 0 || e != want {
		t.Errorf("stability of %v with %v: %d, error %d", h, l, n, e)
	}
	for _, least := range []int{0, -api.MaxSize, api.MaxSize + 1} {
		if empty, e := care.Drain(h, l, least); len(empty) > 0 || e != want {
			t.Errorf("drain of %v with %v, at least %d: %v, error %d", h, l, least, empty, e)
		}
	}
}
