package unit_test

import (
	"fmt"

	"cresset/api"
	"cresset/unit"
)

func Example() {
	heron := api.Unit{Name: "heron", Speed: 3600, Fuel: 1000, Burn: 3600, Reserve: 100, Hours: 10000, Sea: 5, Wind: 10}
	route := []api.Way{{To: api.Spot{X: 300}, Stay: 10}, {To: api.Spot{X: 300, Y: 100}}}
	legs, at, why, e := unit.Plan(heron, 100, route, nil)
	fmt.Println(len(legs), legs[2].Leave, legs[2].Fuel, at, why, e == api.OK)
	low, high, e := unit.Where(legs, 250)
	fmt.Println(low, high, e == api.OK)
	left, e := unit.Left(heron, legs, 250)
	fmt.Println(left, e == api.OK)
	home, at, why, e := unit.Again(heron, legs, 250, nil, nil)
	fmt.Println(home, at, why, e == api.OK)
	boxes, e := unit.Boxes(heron, legs, 2)
	fmt.Println(boxes[0], len(boxes), e == api.OK)
	fmt.Println(unit.Clash(boxes[1:], boxes[:1]))
	route[0].Stay = 184
	legs, at, why, e = unit.Plan(heron, 100, route, nil)
	fmt.Println(legs, at, why == api.NoFuel, e == api.ErrState)
	gull := heron
	gull.Base.X = 500
	which, e := unit.Assign([]api.Unit{heron, gull}, []int{0, 0}, []api.Spot{{X: 400}, {X: 100}})
	fmt.Println(which, e == api.OK)
	// Output:
	// 3 827 273 -1 0 true
	// {150 0} {150 0} true
	// 850 true
	// [{{150 0} {0 0} 250 400 400 700}] -1 0 true
	// {{0 0} {150 0} 100 250 0} 7 true
	// 0 0
	// [] 1 true true
	// [1 0] true
}
