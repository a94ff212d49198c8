package effort_test

import (
	"fmt"

	"cresset/api"
	"cresset/detect"
	"cresset/effort"
	"cresset/weight"
)

// Example is what README.md shows.
func Example() {
	curve, e := detect.Halving(2)
	half, eighths, none, one := api.Part{Num: "1", Den: "2"}, api.Part{Num: "3", Den: "8"}, api.Part{Num: "0", Den: "1"}, api.Part{Num: "1", Den: "1"}
	task := api.Effort{
		Sites: []api.Site{{Weight: half, Curve: curve}, {Weight: eighths, Curve: curve}},
		Hours: []int{1, 1},
		Rates: [][]api.Part{{one, one}, {one, none}},
	}
	plan, e := effort.Greedy(task)
	fmt.Println(plan, e)
	better, moves, e := effort.Improve(task, plan, 64)
	fmt.Println(better, moves, e)
	more, e := effort.Gain(task, better, 0, 0)
	fmt.Println(weight.Text(more), e)
	answer, e := effort.Solve(task, 64)
	fmt.Println(answer.Plan, weight.Text(answer.Value), weight.Text(answer.Bound), weight.Text(answer.Gap), e)
	// Output:
	// [[1 0] [1 0]] 0
	// [[0 1] [1 0]] 1 0
	// 1/8 0
	// [[0 1] [1 0]] 7/16 7/16 0 0
}
