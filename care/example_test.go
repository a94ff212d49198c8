package care_test

import (
	"fmt"

	"cresset/api"
	"cresset/care"
)

// Example is what README.md shows.
func Example() {
	plan := api.Steps{Steps: []api.Step{{Adds: []int{0}}, {Needs: []int{0}}}}
	step, fact, e := care.Sound(plan)
	fmt.Println(step, fact, e == api.ErrState)
	plan.Orders = []api.Order{{A: 0, B: 1}}
	step, fact, e = care.Sound(plan)
	fmt.Println(step, fact, e == api.OK)
	fmt.Println(care.Ends(plan))
	fmt.Println(care.Lift(api.Winch{Hover: 10000, Swing: 4000, Cable: 12000, Period: 4}))
	fmt.Println(care.Speed(api.Tow{Pull: 100, Line: 400, Drag: 2500, Push: 10, Length: 400, Wave: 5}))
	ship, water := api.Hull{Tons: 1000, Meta: 500, Centre: 400}, []api.Tank{{Long: 1000, Wide: 1000, Deep: 100}}
	fmt.Println(care.Stability(ship, water))
	fmt.Println(care.Drain(ship, water, 60))
	tide := []api.Tide{{}, {Time: 4000, Height: 4000}, {Time: 8000}}
	fmt.Println(care.Float(api.Ground{Draught: 5000, Depth: 3000, TonsPerCm: 10, Pull: 100, Friction: 500}, tide, 0))
	// Output:
	// 1 0 true
	// -1 -1 true
	// [0] 0
	// [1 4 5] 0
	// 600 0
	// 56 0
	// [0] 0
	// 1800 6200 0
}
