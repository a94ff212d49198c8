package care

import "cresset/api"

const maxOrders = 100

// The numbers of facts and of steps.
type (
	factNumber int
	stepNumber int
)

// action is a step: its facts, and the steps that an order names ahead of it.
type action struct {
	needs, adds, takes set[factNumber]
	behind             set[stepNumber]
}

// plan is a plan in sets.
type plan struct {
	start   set[factNumber]
	actions []action
}

// CheckSteps reports whether a plan is valid.
func CheckSteps(p api.Steps) bool {
	_, ok := planOf(p)
	return ok
}

// Sound returns the first need that is not surely met.
func Sound(p api.Steps) (step, fact int, e api.Errno) {
	q, ok := planOf(p)
	if !ok {
		return -1, -1, api.ErrArg
	}
	before, _ := q.doubts()
	for n, a := range q.actions {
		if need, ok := first(a.needs.numbers(), before[n].has); ok {
			return n, int(need), api.ErrState
		}
	}
	return -1, -1, api.OK
}

// Ends returns the facts that surely hold at the end.
func Ends(p api.Steps) ([]int, api.Errno) {
	q, ok := planOf(p)
	if !ok {
		return nil, api.ErrArg
	}
	_, end := q.doubts()
	return facts().without(end).list(), api.OK
}

// Row returns the first row of a plan.
func Row(p api.Steps) ([]int, api.Errno) {
	q, ok := planOf(p)
	if !ok {
		return nil, api.ErrArg
	}
	return q.row(), api.OK
}

// planOf returns a plan in sets, if it is valid.
func planOf(p api.Steps) (plan, bool) {
	if !areFacts(p.Start) || len(p.Steps) > api.MaxSteps || !all(p.Steps, isStep) || !areOrders(p.Orders, len(p.Steps)) {
		return plan{}, false
	}
	q := plan{start: setOf[factNumber](p.Start)}
	for _, s := range p.Steps {
		q.actions = append(q.actions, action{needs: setOf[factNumber](s.Needs), adds: setOf[factNumber](s.Adds), takes: setOf[factNumber](s.Takes)})
	}
	for _, o := range p.Orders {
		later := &q.actions[o.B]
		later.behind = later.behind.with(stepNumber(o.A))
	}
	return q, len(q.row()) == len(q.actions)
}

func isStep(s api.Step) bool {
	return areFacts(s.Needs) && areFacts(s.Adds) && areFacts(s.Takes) &&
		setOf[factNumber](s.Adds).hasNone(setOf[factNumber](s.Takes))
}

// areFacts reports whether numbers are those of facts, and strictly rise.
func areFacts(l []int) bool {
	least := 0
	for _, n := range l {
		if !isBetween(least, n, api.MaxFacts-1) {
			return false
		}
		least = n + 1
	}
	return true
}

func areOrders(l []api.Order, steps int) bool {
	return len(l) <= maxOrders && all(l, func(o api.Order) bool {
		return isBetween(0, o.A, steps-1) && isBetween(0, o.B, steps-1)
	})
}

// facts returns the set of all facts.
func facts() set[factNumber] {
	return below[factNumber](api.MaxFacts)
}

// steps returns the set of all steps.
func (p plan) steps() set[stepNumber] {
	return below[stepNumber](len(p.actions))
}

// canFollow reports whether a step can be the next one when some are done.
func (p plan) canFollow(done set[stepNumber], n stepNumber) bool {
	return !done.has(n) && done.hasAll(p.actions[n].behind)
}

// row returns the first row. Steps that are before themselves never come, nor do those behind them: the row is then shorter than the plan.
func (p plan) row() []int {
	var l []int
	var done set[stepNumber]
	for range p.actions {
		n, ok := first(p.steps().numbers(), func(n stepNumber) bool { return p.canFollow(done, n) })
		if !ok {
			break
		}
		l, done = append(l, int(n)), done.with(n)
	}
	return l
}

// doubts returns the facts that do not hold in at least one row: just before each step, and behind all steps. As each fact is looked at on its own, what matters of a row's beginning is only which steps it has; so there are at most 2^12 cases, and not 12! rows.
func (p plan) doubts() (before []set[factNumber], end set[factNumber]) {
	type beginning struct {
		possible bool
		doubts   set[factNumber]
	}
	beginnings := make([]beginning, 1<<len(p.actions))
	beginnings[0] = beginning{true, facts().without(p.start)}
	before = make([]set[factNumber], len(p.actions))
	for done := range subsets[stepNumber](len(p.actions)) {
		b := beginnings[done]
		for n, a := range p.actions {
			if !b.possible || !p.canFollow(done, stepNumber(n)) {
				continue
			}
			before[n] = before[n].and(b.doubts)
			next := &beginnings[done.with(stepNumber(n))]
			next.possible = true
			next.doubts = next.doubts.and(b.doubts.without(a.adds)).and(a.takes)
		}
	}
	return before, beginnings[p.steps()].doubts
}
