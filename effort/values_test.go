package effort_test

import (
	"math"
	"math/rand"
	"testing"

	"cresset/api"
	"cresset/effort"
)

// mixed returns a task of two teams and three sites; the first team cannot be at the last site.
func mixed() api.Effort {
	return api.Effort{
		Sites: []api.Site{{Weight: of(1, 2), Curve: halving(2)}, {Weight: of(3, 1), Curve: halving(1)}, {Weight: of(0, 1), Curve: halving(3)}},
		Hours: []int{5, 48},
		Rates: [][]api.Part{{of(1, 3), of(2, 1), of(0, 1)}, {of(1, 4), of(1, 16), of(1, 1)}},
	}
}

// P7.1
func TestCovers(t *testing.T) {
	for _, c := range []struct {
		task api.Effort
		plan [][]int
		want []api.Part
	}{
		{example(), [][]int{{0, 0}}, []api.Part{of(0, 1), of(0, 1)}},
		{example(), [][]int{{2, 0}}, []api.Part{of(2, 1), of(0, 1)}},
		{example(), [][]int{{1, 1}}, []api.Part{of(1, 1), of(1, 1)}},
		{mixed(), [][]int{{1, 1, 0}, {1, 1, 1}}, []api.Part{of(7, 12), of(33, 16), of(1, 1)}},
		{mixed(), [][]int{{3, 0, 0}, {7, 9, 32}}, []api.Part{of(11, 4), of(9, 16), of(32, 1)}},
		{mixed(), [][]int{{0, 0, 0}, {48, 0, 0}}, []api.Part{of(12, 1), of(0, 1), of(0, 1)}},
	} {
		l, e := effort.Covers(c.task, c.plan)
		are(t, "Covers", l, e, c.want, api.OK)
	}
}

// P7.1
func TestValue(t *testing.T) {
	for _, c := range []struct {
		task api.Effort
		plan [][]int
		want api.Part
	}{
		{example(), [][]int{{1, 1}}, of(3, 8)},
		{example(), [][]int{{2, 0}}, of(3, 8)},
		{example(), [][]int{{0, 0}}, of(0, 1)},
		{example(), [][]int{{0, 2}}, of(3, 16)},
		{example(), [][]int{{0, 1}}, of(1, 8)},
		{mixed(), [][]int{{0, 0, 0}, {0, 0, 48}}, of(0, 1)},
		{mixed(), [][]int{{0, 1, 0}, {0, 0, 0}}, of(3, 2)},
		{mixed(), [][]int{{1, 0, 0}, {1, 1, 1}}, of(23, 96)},
		{mixed(), [][]int{{3, 0, 0}, {4, 0, 0}}, of(3, 8)},
	} {
		p, e := effort.Value(c.task, c.plan)
		m := model{t: c.task}
		is(t, "the model's value", partOf(m.value(c.plan)), m.error(), c.want, api.OK)
		is(t, "Value", p, e, c.want, api.OK)
	}
}

// P7.1
func TestGain(t *testing.T) {
	for _, c := range []struct {
		task       api.Effort
		plan       [][]int
		team, site int
		want       api.Part
		e          api.Errno
	}{
		{example(), [][]int{{0, 0}}, 0, 0, of(1, 4), api.OK},
		{example(), [][]int{{0, 0}}, 0, 1, of(1, 8), api.OK},
		{example(), [][]int{{1, 0}}, 0, 0, of(1, 8), api.OK},
		{example(), [][]int{{1, 0}}, 0, 1, of(1, 8), api.OK},
		{example(), [][]int{{1, 1}}, 0, 1, of(1, 16), api.OK}, // without an hour left
		{example(), [][]int{{2, 0}}, 0, 0, of(0, 1), api.OK},
		{example(), [][]int{{2, 0}}, 0, 1, of(1, 8), api.OK},
		{mixed(), [][]int{{0, 0, 0}, {48, 0, 0}}, 1, 0, of(0, 1), api.OK},
		{mixed(), [][]int{{0, 0, 0}, {0, 15, 0}}, 1, 1, of(3, 32), api.OK},
		{mixed(), [][]int{{0, 0, 0}, {0, 15, 0}}, 0, 1, of(3, 32), api.OK},
		{mixed(), [][]int{{0, 0, 0}, {0, 1, 0}}, 0, 1, of(45, 32), api.OK},
		{mixed(), [][]int{{0, 0, 0}, {0, 0, 0}}, 0, 2, of(0, 1), api.OK}, // without a rate
		{mixed(), [][]int{{0, 0, 0}, {0, 0, 0}}, 1, 2, of(0, 1), api.OK}, // without a weight
		{sized(1, 1, 48), [][]int{{39}}, 0, 0, of(1, 1<<40), api.OK},
		{sized(1, 1, 48), [][]int{{48}}, 0, 0, of(0, 1), api.OK},
		{task([]int{48}, of(1, 49), api.Site{Weight: of(1, 1), Curve: straight(of(1, 1))}), [][]int{{48}}, 0, 0, of(1, 49), api.OK},
		{mixed(), [][]int{{0, 0, 0}, {0, 0, 0}}, -1, 0, api.Part{}, api.ErrArg},
		{mixed(), [][]int{{0, 0, 0}, {0, 0, 0}}, 2, 0, api.Part{}, api.ErrArg},
		{mixed(), [][]int{{0, 0, 0}, {0, 0, 0}}, 0, -1, api.Part{}, api.ErrArg},
		{mixed(), [][]int{{0, 0, 0}, {0, 0, 0}}, 0, 3, api.Part{}, api.ErrArg},
		{mixed(), [][]int{{0, 0, 0}, {0, 0, 0}}, math.MaxInt, 0, api.Part{}, api.ErrArg},
		{mixed(), [][]int{{0, 0, 0}, {0, 0, 0}}, 0, math.MinInt, api.Part{}, api.ErrArg},
		{sized(8, 24, 1), make([][]int, 8), 7, 23, api.Part{}, api.ErrArg},
	} {
		p, e := effort.Gain(c.task, c.plan, c.team, c.site)
		is(t, "Gain", p, e, c.want, c.e)
	}
	many := sized(8, 24, 1)
	plan, _ := nothing(many)
	p, e := effort.Gain(many, plan, 7, 23)
	is(t, "Gain of the last ones", p, e, of(1, 48), api.OK)
}

// P7.1
func TestValuesOfSome(t *testing.T) {
	random := rand.New(rand.NewSource(71))
	for i := range 1500 {
		task := someTask(random, i%3, 8, 8, 10)
		plan := somePlan(random, task)
		if effort.Check(task) != api.OK || effort.CheckPlan(task, plan) != api.OK {
			t.Fatalf("%v, %v is not valid", task, plan)
		}
		m := model{t: task}
		l, e := effort.Covers(task, plan)
		are(t, "Covers", l, e, partsOf(m.covers(plan)), api.OK)
		team, site := random.Intn(len(task.Hours)), random.Intn(len(task.Sites))
		p, e := effort.Gain(task, plan, team, site)
		is(t, "Gain", p, e, partOf(m.gain(plan, team, site)), api.OK)
		if m.wide {
			t.Fatalf("a coverage or a gain of %v does not fit", task)
		}
		value := partOf(m.value(plan))
		p, e = effort.Value(task, plan)
		if m.wide {
			is(t, "Value that does not fit", p, e, api.Part{}, api.ErrRange)
		} else {
			is(t, "Value", p, e, value, api.OK)
		}
	}
}
