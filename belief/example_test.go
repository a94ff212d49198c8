package belief_test

import (
	"fmt"

	"cresset/api"
	"cresset/belief"
	"cresset/weight"
)

// Example is what README.md shows.
func Example() {
	one, half, none := api.Part{Num: "1", Den: "1"}, api.Part{Num: "1", Den: "2"}, api.Part{Num: "0", Den: "1"}
	raft := api.Belief{
		Sea: api.Grid{W: 3, H: 1, Size: 100},
		Scenes: []api.Scene{{
			Weight:  one,
			Start:   []api.Share{{Weight: one}},
			Strides: []api.Stride{{Chance: half}, {DX: 1, Chance: half}},
		}},
	}
	vain := api.Notice{Time: 1, Of: 1, Where: []api.Run{{From: 0, To: 1}}, In: none, Out: one}
	masses, left, e := belief.Filter(raft, []api.Notice{vain}, 2)
	for _, m := range masses {
		fmt.Println(m.Cell, weight.Text(m.Weight))
	}
	fmt.Println(weight.Text(left), e)
	times, e := belief.Smooth(raft, []api.Notice{vain}, 2)
	fmt.Println(times[1][0].Cell, weight.Text(times[1][0].Weight), len(times[1]), e)
	later, e := belief.Predict(raft, masses)
	cells, e := belief.Cells(raft, later)
	for _, c := range cells {
		fmt.Println(c.Cell, weight.Text(c.Weight))
	}
	fmt.Println(belief.Likely(raft, later, half))
	// Output:
	// {1 0} 1/2
	// {2 0} 1/2
	// 1/2 0
	// {1 0} 1 1 0
	// {-1 -1} 1/4
	// {1 0} 1/4
	// {2 0} 1/2
	// [{0 2 3}] 0
}
