package effort_test

import (
	"math"
	"math/rand"
	"testing"

	"cresset/api"
	"cresset/effort"
)

// isImproved checks what Improve returns.
func isImproved(t *testing.T, what string, task api.Effort, plan [][]int, rounds int, want [][]int, wantMoves int, wantError api.Errno) {
	t.Helper()
	better, moves, e := effort.Improve(task, plan, rounds)
	isPlan(t, what, better, e, want, wantError)
	if moves != wantMoves {
		t.Errorf("%s: %d moves, want %d", what, moves, wantMoves)
	}
}

// helpful returns a task of two teams with an hour each, in which Greedy puts both at the first site, though the first team would be of more use at the second one.
func helpful() api.Effort {
	return rated([]api.Part{of(1, 2), of(3, 8)}, []int{1, 1}, row(2, of(1, 1)), []api.Part{of(1, 1), of(0, 1)})
}

// P7.4
func TestImprove(t *testing.T) {
	none, one := of(0, 1), of(1, 1)
	weights := []api.Part{of(1, 16), of(1, 8), of(1, 4), of(1, 2)}
	four := rated(weights, []int{4}, row(4, one))
	for _, c := range []struct {
		what   string
		task   api.Effort
		plan   [][]int
		rounds int
		want   [][]int
		moves  int
	}{
		{"what Greedy missed", helpful(), [][]int{{1, 0}, {1, 0}}, 64, [][]int{{0, 1}, {1, 0}}, 1},
		{"no rounds", helpful(), [][]int{{1, 0}, {1, 0}}, 0, [][]int{{1, 0}, {1, 0}}, 0},
		{"one round", helpful(), [][]int{{1, 0}, {1, 0}}, 1, [][]int{{0, 1}, {1, 0}}, 1},
		{"the best plan", helpful(), [][]int{{0, 1}, {1, 0}}, 64, [][]int{{0, 1}, {1, 0}}, 0},
		{"no hours, though some are left", helpful(), [][]int{{0, 0}, {0, 0}}, 64, [][]int{{0, 0}, {0, 0}}, 0},
		{"an hour left", helpful(), [][]int{{1, 0}, {0, 0}}, 64, [][]int{{1, 0}, {0, 0}}, 0},
		{"one site", sized(2, 1, 3), [][]int{{3}, {1}}, 64, [][]int{{3}, {1}}, 0},
		{"an equal value", example(), [][]int{{2, 0}}, 64, [][]int{{2, 0}}, 0},
		{"the other equal value", example(), [][]int{{1, 1}}, 64, [][]int{{1, 1}}, 0},
		{"less value", example(), [][]int{{0, 2}}, 64, [][]int{{1, 1}}, 1},
		{"where the rate is 0", rated(weights, []int{1}, []api.Part{one, none, none, none}), [][]int{{1, 0, 0, 0}}, 64, [][]int{{1, 0, 0, 0}}, 0},
		{"the first site to which, not the best one", four, [][]int{{1, 0, 0, 0}}, 1, [][]int{{0, 1, 0, 0}}, 1},
		{"the next one after that", four, [][]int{{1, 0, 0, 0}}, 2, [][]int{{0, 0, 1, 0}}, 2},
		{"the last one after that", four, [][]int{{1, 0, 0, 0}}, 64, [][]int{{0, 0, 0, 1}}, 3},
		{"the first site from which, not the best one", four, [][]int{{0, 1, 3, 0}}, 1, [][]int{{0, 0, 3, 1}}, 1},
		{"not the first site at all costs", four, [][]int{{0, 0, 0, 4}}, 1, [][]int{{1, 0, 0, 3}}, 1},
		{"all of it", four, [][]int{{4, 0, 0, 0}}, 64, [][]int{{0, 0, 2, 2}}, 6},
		{"the first team", rated(weights, []int{1, 1}, row(4, one), row(4, one)), [][]int{{0, 1, 0, 0}, {1, 0, 0, 0}}, 1, [][]int{{0, 0, 1, 0}, {1, 0, 0, 0}}, 1},
		{"the second team, if it has to be", rated(weights, []int{1, 1}, row(4, one), row(4, one)), [][]int{{0, 0, 0, 1}, {0, 1, 0, 0}}, 1, [][]int{{0, 0, 0, 1}, {0, 0, 1, 0}}, 1},
		{"more sites than the rounds", sized(1, 24, 48), [][]int{append([]int{48}, make([]int, 23)...)}, 7, [][]int{append([]int{41, 7}, make([]int, 22)...)}, 7},
	} {
		m := model{t: c.task}
		plan, moves := m.improve(c.plan, c.rounds)
		if moves != c.moves {
			t.Errorf("the model's Improve of %s: %d moves, want %d", c.what, moves, c.moves)
		}
		isPlan(t, "the model's Improve of "+c.what, plan, m.error(), c.want, api.OK)
		isImproved(t, "Improve of "+c.what, c.task, c.plan, c.rounds, c.want, c.moves, api.OK)
	}
}

// P7.4
func TestImproveByRounds(t *testing.T) {
	crowded := task([]int{48, 48}, of(1, 1), sized(1, 24, 1).Sites...)
	plan, _ := nothing(crowded)
	plan[0][0], plan[1][0] = 48, 48
	for _, rounds := range []int{-1, 65, math.MinInt, math.MaxInt} {
		isImproved(t, "rounds that are not valid", crowded, plan, rounds, nil, 0, api.ErrArg)
		answer, e := effort.Solve(crowded, rounds)
		isAnswer(t, "Solve by rounds that are not valid", answer, e, api.Answer{}, api.ErrArg)
	}
	for _, rounds := range []int{0, 1, 63, 64} {
		m := model{t: crowded}
		want, moves := m.improve(plan, rounds)
		if moves != rounds {
			t.Errorf("%d moves in %d rounds", moves, rounds)
		}
		isImproved(t, "all rounds", crowded, plan, rounds, want, rounds, api.OK)
	}
}

// P7.4
func TestImproveOfSome(t *testing.T) {
	random := rand.New(rand.NewSource(74))
	var made, stopped int
	for i := range 600 {
		task := someTask(random, i%3, 3, 5, 6)
		plan := somePlan(random, task)
		rounds := random.Intn([]int{3, 65}[random.Intn(2)])
		m := model{t: task}
		want, moves := m.improve(plan, rounds)
		isImproved(t, "Improve", task, plan, rounds, want, moves, m.error())
		made += moves
		if moves == rounds && rounds > 0 {
			stopped++
		}
	}
	if made < 500 || stopped < 50 {
		t.Errorf("only %d moves, and %d times all rounds", made, stopped)
	}
}
