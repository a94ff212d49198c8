package effort_test

import (
	"math/rand"
	"testing"

	"cresset/api"
	"cresset/effort"
)

// P7.5
func TestSolve(t *testing.T) {
	for _, c := range []struct {
		what   string
		task   api.Effort
		rounds int
		want   api.Answer
	}{
		{"the example", example(), 64, api.Answer{Plan: [][]int{{2, 0}}, Value: of(3, 8), Prices: []api.Part{of(1, 8)}, Bound: of(3, 8), Gap: of(0, 1)}},
		{"what has to be improved", helpful(), 64, api.Answer{Plan: [][]int{{0, 1}, {1, 0}}, Value: of(7, 16), Prices: []api.Part{of(1, 8), of(1, 8)}, Bound: of(7, 16), Gap: of(0, 1)}},
		{"what has to be improved, by one round", helpful(), 1, api.Answer{Plan: [][]int{{0, 1}, {1, 0}}, Value: of(7, 16), Prices: []api.Part{of(1, 8), of(1, 8)}, Bound: of(7, 16), Gap: of(0, 1)}},
		{"what has to be improved, by no round", helpful(), 0, api.Answer{Plan: [][]int{{1, 0}, {1, 0}}, Value: of(3, 8), Prices: []api.Part{of(3, 16), of(0, 1)}, Bound: of(9, 16), Gap: of(3, 16)}},
		{"no hours", sized(2, 1, 0), 64, api.Answer{Plan: [][]int{{0}, {0}}, Value: of(0, 1), Prices: []api.Part{of(1, 2), of(1, 2)}, Bound: of(0, 1), Gap: of(0, 1)}},
	} {
		m := model{t: c.task}
		isAnswer(t, "the model's Solve of "+c.what, m.solve(c.rounds), m.error(), c.want, api.OK)
		answer, e := effort.Solve(c.task, c.rounds)
		isAnswer(t, "Solve of "+c.what, answer, e, c.want, api.OK)
	}
}

// P7.5
func TestSolveOfSome(t *testing.T) {
	random := rand.New(rand.NewSource(75))
	var gaps, wide int
	for i := range 600 {
		task := someTask(random, i%3, 3, 5, 6)
		rounds := random.Intn([]int{3, 65}[random.Intn(2)])
		m := model{t: task}
		want, wantError := m.solve(rounds), api.OK
		if m.wide {
			want, wantError = api.Answer{}, api.ErrRange
			wide++
		}
		answer, e := effort.Solve(task, rounds)
		isAnswer(t, "Solve", answer, e, want, wantError)
		if want.Gap != of(0, 1) {
			gaps++
		}
	}
	if gaps < 100 || wide > 100 {
		t.Errorf("%d answers with a gap, %d errors", gaps, wide)
	}
}

// P7.5: a task with all that one can have is solved as its parts say.
func TestSolveOfTheMost(t *testing.T) {
	random := rand.New(rand.NewSource(76))
	most := sized(8, 24, 48)
	for site := range most.Sites {
		most.Sites[site].Weight = of(1+random.Int63n(1e6), 1e6)
		for team := range most.Rates {
			most.Rates[team][site] = of(random.Int63n(500), 1000)
		}
	}
	answer, e := effort.Solve(most, 64)
	if e != api.OK {
		t.Fatalf("Solve has the error %d", e)
	}
	greedy, e := effort.Greedy(most)
	plan, moves, also := effort.Improve(most, greedy, 64)
	if e != api.OK || also != api.OK || !sameRows(plan, answer.Plan) {
		t.Errorf("the plan is %v, after %d moves, errors %d, %d; Solve's %v", plan, moves, e, also, answer.Plan)
	}
	m := model{t: most}
	value, prices := m.value(plan), m.prices(plan)
	bound := m.bound(prices)
	want := api.Answer{Plan: plan, Value: partOf(value), Prices: partsOf(prices), Bound: partOf(bound), Gap: partOf(m.sub(bound, value))}
	isAnswer(t, "Solve", answer, e, want, m.error())
}
