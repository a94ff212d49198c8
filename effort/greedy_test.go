package effort_test

import (
	"math/rand"
	"slices"
	"testing"

	"cresset/api"
	"cresset/effort"
)

// rated returns the task of the example's curves with some weights, of teams with some hours and rates.
func rated(weights []api.Part, hours []int, rates ...[]api.Part) api.Effort {
	t := api.Effort{Hours: hours, Rates: rates}
	for _, w := range weights {
		t.Sites = append(t.Sites, api.Site{Weight: w, Curve: halving(2)})
	}
	return t
}

// P7.3
func TestGreedy(t *testing.T) {
	none, one, two := of(0, 1), of(1, 1), of(2, 1)
	third := []api.Part{of(1, 3), of(1, 3), of(1, 3)}
	for _, c := range []struct {
		what string
		task api.Effort
		want [][]int
	}{
		{"the example", example(), [][]int{{2, 0}}},
		{"the example, with one hour more", changed(func(t *api.Effort) { t.Hours[0] = 3 }), [][]int{{2, 1}}},
		{"no hours", sized(2, 2, 0), [][]int{{0, 0}, {0, 0}}},
		{"no rates", task([]int{5}, none, example().Sites...), [][]int{{0, 0}}},
		{"no weights", rated([]api.Part{none, none}, []int{5}, row(2, one)), [][]int{{0, 0}}},
		{"nothing to find", task([]int{5}, one, api.Site{Weight: one, Curve: straight(none)}), [][]int{{0}}},
		{"more hours than are of use", task([]int{48}, one, example().Sites...), [][]int{{2, 2}}},
		{"a site that is done by one hour", task([]int{48}, two, example().Sites...), [][]int{{1, 1}}},
		{"one hour for three equal sites", rated(third, []int{1}, row(3, one)), [][]int{{1, 0, 0}}},
		{"four hours for three equal sites", rated(third, []int{4}, row(3, one)), [][]int{{2, 1, 1}}},
		{"equal teams", rated(third, []int{1, 1, 1}, row(3, one), row(3, one), row(3, one)), [][]int{{1, 0, 0}, {0, 1, 0}, {0, 0, 1}}},
		{"the lesser team, not the lesser site", rated(third, []int{1, 1}, []api.Part{none, one, one}, row(3, one)), [][]int{{0, 1, 0}, {1, 0, 0}}},
		{"the greater gain of a greater team, and site", rated(third, []int{1, 1}, row(3, one), []api.Part{one, one, two}), [][]int{{1, 0, 0}, {0, 0, 1}}},
		{"the lesser team with hours left", rated(third, []int{0, 2}, row(3, one), row(3, one)), [][]int{{0, 0, 0}, {1, 1, 0}}},
		{"a team that can be nowhere, beside one that can", rated(third, []int{2, 2}, row(3, none), []api.Part{none, one, none}), [][]int{{0, 0, 0}, {0, 2, 0}}},
		{"gains that fall by other teams' hours", rated([]api.Part{of(1, 2), of(3, 8)}, []int{1, 1}, row(2, one), []api.Part{one, none}), [][]int{{1, 0}, {1, 0}}},
		{"the greatest gain, not the greatest slope", task([]int{1}, one, api.Site{Weight: one, Curve: curve(none, none, of(1, 100), of(1, 10))}, api.Site{Weight: one, Curve: straight(of(1, 9))}), [][]int{{0, 1}}},
		{"the greatest gain, not the greatest chance", rated([]api.Part{of(1, 9), of(1, 3)}, []int{1}, []api.Part{two, one}), [][]int{{0, 1}}},
	} {
		m := model{t: c.task}
		isPlan(t, "the model's Greedy of "+c.what, m.greedy(), m.error(), c.want, api.OK)
		plan, e := effort.Greedy(c.task)
		isPlan(t, "Greedy of "+c.what, plan, e, c.want, api.OK)
	}
}

// P7.3: with all that a task can have, each of the teams goes around all sites twice, as every hour halves what a site has left.
func TestGreedyOfTheMost(t *testing.T) {
	plan, e := effort.Greedy(sized(8, 24, 48))
	isPlan(t, "Greedy", plan, e, slices.Repeat([][]int{slices.Repeat([]int{2}, 24)}, 8), api.OK)
}

// P7.3
func TestGreedyOfSome(t *testing.T) {
	random := rand.New(rand.NewSource(73))
	hours, left := 0, 0
	for i := range 600 {
		task := someTask(random, i%3, 3, 5, 6)
		m := model{t: task}
		want := m.greedy()
		plan, e := effort.Greedy(task)
		isPlan(t, "Greedy", plan, e, want, m.error())
		for team := range plan {
			hours += task.Hours[team]
			left += m.left(plan, team)
		}
	}
	if left < hours/20 || left > hours/2 {
		t.Errorf("%d of %d hours are left", left, hours)
	}
}
