package effort_test

import (
	"math"
	"slices"
	"strings"
	"testing"

	"cresset/api"
	"cresset/effort"
)

// refusesPlan checks that every function that is given a plan refuses it, or the task.
func refusesPlan(t *testing.T, what string, task api.Effort, plan [][]int) {
	t.Helper()
	if e := effort.CheckPlan(task, plan); e != api.ErrArg {
		t.Errorf("CheckPlan of %s: error %d", what, e)
	}
	l, e := effort.Covers(task, plan)
	are(t, "Covers of "+what, l, e, nil, api.ErrArg)
	p, e := effort.Value(task, plan)
	is(t, "Value of "+what, p, e, api.Part{}, api.ErrArg)
	p, e = effort.Gain(task, plan, 0, 0)
	is(t, "Gain of "+what, p, e, api.Part{}, api.ErrArg)
	l, e = effort.Prices(task, plan)
	are(t, "Prices of "+what, l, e, nil, api.ErrArg)
	better, moves, e := effort.Improve(task, plan, 1)
	isPlan(t, "Improve of "+what, better, e, nil, api.ErrArg)
	if moves != 0 {
		t.Errorf("Improve of %s: %d moves", what, moves)
	}
}

// refusesTask checks that every function refuses a task.
func refusesTask(t *testing.T, what string, task api.Effort) {
	t.Helper()
	plan, prices := nothing(task)
	if e := effort.Check(task); e != api.ErrArg {
		t.Errorf("Check of %s: error %d", what, e)
	}
	refusesPlan(t, what, task, plan)
	p, e := effort.Bound(task, prices)
	is(t, "Bound of "+what, p, e, api.Part{}, api.ErrArg)
	greedy, e := effort.Greedy(task)
	isPlan(t, "Greedy of "+what, greedy, e, nil, api.ErrArg)
	answer, e := effort.Solve(task, 1)
	isAnswer(t, "Solve of "+what, answer, e, api.Answer{}, api.ErrArg)
}

// changed returns the chapter's task with a change.
func changed(change func(t *api.Effort)) api.Effort {
	t := example()
	change(&t)
	return t
}

// tiny are fractions, and whether a weight and a rate can be so.
func tiny() map[api.Part]api.Errno {
	return map[api.Part]api.Errno{
		of(0, 1): api.OK, of(1, 1): api.OK, of(7, 2): api.OK, part(nines(9), "1"): api.OK, part("1", nines(9)): api.OK, part("999999998", nines(9)): api.OK, part(ten(8), nines(9)): api.OK,
		part(ten(9), "1"): api.ErrArg, part("1", ten(9)): api.ErrArg, part(ten(9), nines(9)): api.ErrArg, part("999999999", ten(9)): api.ErrArg, part(strings.Repeat("1", 700), "1"): api.ErrArg,
		{}: api.ErrArg, part("1", ""): api.ErrArg, part("", "1"): api.ErrArg, part("1", "0"): api.ErrArg, part("0", "0"): api.ErrArg, part("0", "2"): api.ErrArg, part("2", "4"): api.ErrArg,
		part("01", "2"): api.ErrArg, part("1", "02"): api.ErrArg, part("-1", "2"): api.ErrArg, part("+1", "2"): api.ErrArg, part("1/2", "1"): api.ErrArg, part("0.5", "1"): api.ErrArg, part("a", "1"): api.ErrArg, part("\uff11", "1"): api.ErrArg,
	}
}

// P7.1
func TestCheckNumbers(t *testing.T) {
	for p, want := range tiny() {
		for what, task := range map[string]api.Effort{
			"the first weight": changed(func(t *api.Effort) { t.Sites[0].Weight = p }),
			"the last weight":  changed(func(t *api.Effort) { t.Sites[1].Weight = p }),
			"the first rate":   changed(func(t *api.Effort) { t.Rates[0][0] = p }),
			"the last rate":    changed(func(t *api.Effort) { t.Rates[0][1] = p }),
			"a second team's rate": changed(func(t *api.Effort) {
				t.Hours, t.Rates = []int{2, 2}, [][]api.Part{t.Rates[0], {of(1, 1), p}}
			}),
		} {
			what += " " + string(p.Num) + "/" + string(p.Den)
			if want != api.OK {
				refusesTask(t, what, task)
			} else if e := effort.Check(task); e != api.OK {
				t.Errorf("Check of %s: error %d", what, e)
			}
		}
	}
}

// P7.1
func TestCheck(t *testing.T) {
	for _, c := range []struct {
		what string
		task api.Effort
		want api.Errno
	}{
		{"the example", example(), api.OK},
		{"no task", api.Effort{}, api.ErrArg},
		{"one site", sized(1, 1, 1), api.OK},
		{"24 sites", sized(1, 24, 1), api.OK},
		{"25 sites", sized(1, 25, 1), api.ErrArg},
		{"no sites", sized(1, 0, 1), api.ErrArg},
		{"8 teams", sized(8, 1, 1), api.OK},
		{"9 teams", sized(9, 1, 1), api.ErrArg},
		{"no teams", sized(0, 1, 1), api.ErrArg},
		{"the most of all", sized(8, 24, 48), api.OK},
		{"no hours", sized(2, 2, 0), api.OK},
		{"48 hours", sized(2, 2, 48), api.OK},
		{"49 hours", sized(2, 2, 49), api.ErrArg},
		{"-1 hours", sized(2, 2, -1), api.ErrArg},
		{"the most hours", sized(2, 2, math.MaxInt), api.ErrArg},
		{"the least hours", sized(2, 2, math.MinInt), api.ErrArg},
		{"a second team with 49 hours", changed(func(t *api.Effort) { t.Hours, t.Rates = []int{2, 49}, slices.Repeat(t.Rates, 2) }), api.ErrArg},
		{"a second team", changed(func(t *api.Effort) { t.Hours, t.Rates = []int{2, 48}, slices.Repeat(t.Rates, 2) }), api.OK},
		{"no rates of a second team", changed(func(t *api.Effort) { t.Hours = []int{2, 2} }), api.ErrArg},
		{"empty rates of a second team", changed(func(t *api.Effort) { t.Hours, t.Rates = []int{2, 2}, append(t.Rates, nil) }), api.ErrArg},
		{"rates of no team", changed(func(t *api.Effort) { t.Rates = slices.Repeat(t.Rates, 2) }), api.ErrArg},
		{"no rates", changed(func(t *api.Effort) { t.Rates = nil }), api.ErrArg},
		{"a rate too few", changed(func(t *api.Effort) { t.Rates[0] = t.Rates[0][:1] }), api.ErrArg},
		{"a rate too many", changed(func(t *api.Effort) { t.Rates[0] = append(t.Rates[0], of(1, 1)) }), api.ErrArg},
		{"no hours of the team", changed(func(t *api.Effort) { t.Hours = nil }), api.ErrArg},
		{"no curve", changed(func(t *api.Effort) { t.Sites[1].Curve = nil }), api.ErrArg},
		{"a curve of one bend", changed(func(t *api.Effort) { t.Sites[0].Curve = t.Sites[0].Curve[:1] }), api.ErrArg},
		{"a curve that is not concave", changed(func(t *api.Effort) {
			t.Sites[1].Curve = curve(of(0, 1), of(0, 1), of(1, 1), of(1, 4), of(2, 1), of(3, 4))
		}), api.ErrArg},
		{"a curve above 1", changed(func(t *api.Effort) { t.Sites[0].Curve = straight(of(5, 4)) }), api.ErrArg},
		{"a flat curve", changed(func(t *api.Effort) { t.Sites[0].Curve = straight(of(0, 1)) }), api.OK},
		{"a curve with long numbers", changed(func(t *api.Effort) { t.Sites[0].Curve = straight(part("1", nines(18))) }), api.OK},
		{"a curve with too long numbers", changed(func(t *api.Effort) { t.Sites[0].Curve = straight(part("1", ten(18))) }), api.ErrArg},
		{"weights above 1", changed(func(t *api.Effort) { t.Sites[0].Weight, t.Sites[1].Weight = of(3, 2), of(7, 1) }), api.OK},
		{"no weights", changed(func(t *api.Effort) { t.Sites[0].Weight, t.Sites[1].Weight = of(0, 1), of(0, 1) }), api.OK},
		{"a team without rates", changed(func(t *api.Effort) { t.Rates[0] = row(2, of(0, 1)) }), api.OK},
		{"very many", api.Effort{Sites: make([]api.Site, 1000), Hours: make([]int, 1000), Rates: make([][]api.Part, 1000)}, api.ErrArg},
	} {
		if c.want != api.OK {
			refusesTask(t, c.what, c.task)
		} else if e := effort.Check(c.task); e != api.OK {
			t.Errorf("Check of %s: error %d", c.what, e)
		}
	}
}

// P7.1
func TestCheckPlan(t *testing.T) {
	two := task([]int{3, 48}, of(1, 1), example().Sites...)
	two.Rates[0][1] = of(0, 1)
	for _, c := range []struct {
		what string
		plan [][]int
		want api.Errno
	}{
		{"zeros", [][]int{{0, 0}, {0, 0}}, api.OK},
		{"some hours", [][]int{{2, 0}, {1, 5}}, api.OK},
		{"all hours", [][]int{{3, 0}, {20, 28}}, api.OK},
		{"all hours at a site", [][]int{{3, 0}, {0, 48}}, api.OK},
		{"an hour more than the first team has", [][]int{{4, 0}, {0, 0}}, api.ErrArg},
		{"an hour more than the second team has", [][]int{{0, 0}, {20, 29}}, api.ErrArg},
		{"49 hours at a site", [][]int{{0, 0}, {0, 49}}, api.ErrArg},
		{"hours where the rate is 0", [][]int{{2, 1}, {0, 0}}, api.ErrArg},
		{"less than no hours", [][]int{{-1, 0}, {0, 0}}, api.ErrArg},
		{"less than no hours beside too many", [][]int{{0, 0}, {49, -1}}, api.ErrArg},
		{"less than no hours where the rate is 0", [][]int{{0, -1}, {0, 0}}, api.ErrArg},
		{"sums beyond an int", [][]int{{0, 0}, {math.MaxInt, math.MaxInt}}, api.ErrArg},
		{"sums that come round to 0", [][]int{{0, 0}, {math.MinInt, math.MinInt}}, api.ErrArg},
		{"nil", nil, api.ErrArg},
		{"no rows", [][]int{}, api.ErrArg},
		{"a row too few", [][]int{{0, 0}}, api.ErrArg},
		{"a row too many", [][]int{{0, 0}, {0, 0}, {0, 0}}, api.ErrArg},
		{"an empty row too many", [][]int{{0, 0}, {0, 0}, nil}, api.ErrArg},
		{"empty rows", [][]int{nil, nil}, api.ErrArg},
		{"a number too few", [][]int{{0, 0}, {0}}, api.ErrArg},
		{"a number too many", [][]int{{0, 0, 0}, {0, 0}}, api.ErrArg},
		{"very many rows", make([][]int, 1<<20), api.ErrArg},
		{"very many numbers", [][]int{make([]int, 1<<20), {0, 0}}, api.ErrArg},
	} {
		if c.want != api.OK {
			refusesPlan(t, c.what, two, c.plan)
		} else if e := effort.CheckPlan(two, c.plan); e != api.OK {
			t.Errorf("CheckPlan of %s: error %d", c.what, e)
		}
	}
}

// P7.1: with 24 sites, all of the hours of a plan count.
func TestCheckPlanOfManySites(t *testing.T) {
	many := sized(8, 24, 48)
	plan, _ := nothing(many)
	for team := range plan {
		for site := range plan[team] {
			plan[team][site] = 2
		}
	}
	if e := effort.CheckPlan(many, plan); e != api.OK {
		t.Errorf("CheckPlan of all hours: error %d", e)
	}
	plan[7][23]++
	refusesPlan(t, "an hour too many", many, plan)
}
