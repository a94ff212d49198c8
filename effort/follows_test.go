package effort_test

import (
	"iter"
	"math/big"
	"math/rand"
	"reflect"
	"slices"
	"testing"

	"cresset/api"
	"cresset/effort"
)

// callAll calls all functions, and returns their results.
func callAll(t api.Effort, plan [][]int, prices []api.Part) []any {
	var results []any
	keep := func(l ...any) { results = append(results, l...) }
	keep(effort.Check(t), effort.CheckPlan(t, plan))
	covers, e := effort.Covers(t, plan)
	keep(covers, e)
	value, e := effort.Value(t, plan)
	keep(value, e)
	gain, e := effort.Gain(t, plan, 0, 0)
	keep(gain, e)
	prices, e = effort.Prices(t, plan)
	keep(prices, e)
	bound, e := effort.Bound(t, prices)
	keep(bound, e)
	greedy, e := effort.Greedy(t)
	keep(greedy, e)
	better, moves, e := effort.Improve(t, plan, 2)
	keep(better, moves, e)
	same, moves, e := effort.Improve(t, plan, 0)
	keep(same, moves, e)
	answer, e := effort.Solve(t, 2)
	keep(answer.Plan, answer.Value, answer.Prices, answer.Bound, answer.Gap, e)
	return results
}

// spoil changes all that a result holds, and what memory it has left.
func spoil(result any) {
	switch r := result.(type) {
	case []api.Part:
		clear(r[:cap(r)])
	case [][]int:
		for _, row := range r {
			for i := range row[:cap(row)] {
				row[:cap(row)][i] = -7
			}
		}
	}
}

// P7.6
func TestMemory(t *testing.T) {
	random := rand.New(rand.NewSource(78))
	for i := range 100 {
		task := someTask(random, i%2, 3, 5, 6)
		plan, prices := somePlan(random, task), row(len(task.Hours), of(1, 9))
		keptTask, keptPlan := copyOf(task), copyOfRows(plan)
		first := callAll(task, plan, prices)
		kept := callAll(copyOf(task), copyOfRows(plan), slices.Clone(prices))
		if !reflect.DeepEqual(first, kept) {
			t.Fatalf("equal arguments have different results: %v, %v", first, kept)
		}
		for k, result := range first {
			spoil(result)
			if k+1 < len(first) && !reflect.DeepEqual(first[k+1:], kept[k+1:]) {
				t.Fatalf("results share memory: %v, not %v", first[k+1:], kept[k+1:])
			}
		}
		if !reflect.DeepEqual(task, keptTask) || !reflect.DeepEqual(plan, keptPlan) || !slices.Equal(prices, row(len(task.Hours), of(1, 9))) {
			t.Fatalf("the arguments became %v, %v, %v", task, plan, prices)
		}
		if again := callAll(task, plan, prices); !reflect.DeepEqual(again, kept) {
			t.Fatalf("the same arguments have other results: %v, not %v", again, kept)
		}
	}
}

// P7.6: the rows of a plan share no memory.
func TestRows(t *testing.T) {
	many := sized(3, 5, 2)
	zeros, _ := nothing(many)
	greedy, _ := effort.Greedy(many)
	better, _, _ := effort.Improve(many, zeros, 0)
	answer, _ := effort.Solve(many, 0)
	for _, plan := range [][][]int{greedy, better, answer.Plan} {
		kept := copyOfRows(plan)
		for team := range plan {
			_ = append(plan[team], -7, -7, -7, -7, -7, -7, -7, -7)
		}
		if !sameRows(plan, kept) {
			t.Errorf("the plan became %v", plan)
		}
	}
}

// rows yields each row of hours that a team can do: so many sites, at most so many hours, none where the rate is 0.
func rows(rates []api.Part, hours int) iter.Seq[[]int] {
	return func(yield func([]int) bool) {
		if len(rates) == 0 {
			yield(nil)
			return
		}
		for n := range hours + 1 {
			if n > 0 && rates[0] == of(0, 1) {
				return
			}
			for rest := range rows(rates[1:], hours-n) {
				if !yield(append([]int{n}, rest...)) {
					return
				}
			}
		}
	}
}

// plans yields each valid plan of a task.
func plans(t api.Effort) iter.Seq[[][]int] {
	return func(yield func([][]int) bool) {
		if len(t.Hours) == 0 {
			yield(nil)
			return
		}
		for first := range rows(t.Rates[0], t.Hours[0]) {
			for rest := range plans(api.Effort{Hours: t.Hours[1:], Rates: t.Rates[1:]}) {
				if !yield(append([][]int{first}, rest...)) {
					return
				}
			}
		}
	}
}

// bestOf returns the greatest value of all plans of a task.
func bestOf(t *testing.T, task api.Effort) *big.Rat {
	t.Helper()
	best := new(big.Rat)
	for plan := range plans(task) {
		if value := must(t, task, plan); value.Cmp(best) > 0 {
			best = value
		}
	}
	return best
}

// P7.7
func TestNoPlanBeatsABound(t *testing.T) {
	random := rand.New(rand.NewSource(79))
	tight, beaten := 0, 0
	for i := range 250 {
		task := someTask(random, i%2, 2, 3, 3)
		best := bestOf(t, task)
		for range 5 {
			p, e := effort.Bound(task, somePrices(random, task))
			if e != api.OK || ratOf(p).Cmp(best) < 0 {
				t.Fatalf("%v has a plan with the value %v, but the bound %v, error %d", task, best, p, e)
			}
		}
		answer, e := effort.Solve(task, 64)
		if e != api.OK {
			t.Fatalf("Solve has the error %d", e)
		}
		value, bound, gap := ratOf(answer.Value), ratOf(answer.Bound), ratOf(answer.Gap)
		if value.Cmp(best) > 0 || bound.Cmp(best) < 0 || new(big.Rat).Add(value, gap).Cmp(bound) != 0 {
			t.Fatalf("the best value of %v is %v, but the answer %v", task, best, answer)
		}
		if gap.Sign() == 0 {
			tight++
		}
		if value.Cmp(best) < 0 {
			beaten++
		}
		weights := new(big.Rat)
		for _, site := range task.Sites {
			weights.Add(weights, ratOf(site.Weight))
		}
		if best.Cmp(weights) > 0 {
			t.Errorf("%v has a plan with the value %v, but only the weight %v", task, best, weights)
		}
	}
	if tight < 50 || beaten > 50 {
		t.Errorf("%d answers have no gap, %d are not the best", tight, beaten)
	}
}

// P7.7
func TestOneTeam(t *testing.T) {
	random := rand.New(rand.NewSource(80))
	for i := range 250 {
		task := someTask(random, i%2, 1, 4, 5)
		plan, e := effort.Greedy(task)
		if best := bestOf(t, task); e != api.OK || must(t, task, plan).Cmp(best) != 0 {
			t.Errorf("Greedy of %v: %v, error %d, but the best value is %v", task, plan, e, best)
		}
	}
}

// P7.7
func TestImprovedPlans(t *testing.T) {
	random := rand.New(rand.NewSource(81))
	for i := range 300 {
		task := someTask(random, i%2, 3, 5, 6)
		plan := somePlan(random, task)
		rounds := random.Intn(65)
		better, moves, e := effort.Improve(task, plan, rounds)
		if e != api.OK || effort.CheckPlan(task, better) != api.OK {
			t.Fatalf("Improve of %v, %v: %v, error %d", task, plan, better, e)
		}
		if order := must(t, task, better).Cmp(must(t, task, plan)); order != min(moves, 1) {
			t.Errorf("%d moves of %v, from %v to %v, compare as %d", moves, task, plan, better, order)
		}
		m := model{t: task}
		for team := range plan {
			if m.left(plan, team) != m.left(better, team) {
				t.Errorf("from %v to %v hours come or go", plan, better)
			}
		}
		if moves < rounds {
			isImproved(t, "what cannot be improved", task, better, 64, better, 0, api.OK)
		}
	}
}

// P7.7
func TestOneMoreHour(t *testing.T) {
	random := rand.New(rand.NewSource(82))
	for i := range 500 {
		task := someTask(random, i%2, 3, 5, 6)
		plan := somePlan(random, task)
		team, site := random.Intn(len(plan)), random.Intn(len(task.Sites))
		task.Hours[team]++
		if task.Rates[team][site] == of(0, 1) {
			continue
		}
		before := must(t, task, plan)
		p, e := effort.Gain(task, plan, team, site)
		plan[team][site]++
		after := must(t, task, plan)
		if after.Cmp(before) < 0 || e != api.OK || new(big.Rat).Add(before, ratOf(p)).Cmp(after) != 0 {
			t.Errorf("one more hour of %d at %d makes %v of %v, by a gain of %v, error %d", team, site, after, before, p, e)
		}
	}
}
