package tracks_test

import (
	"fmt"

	"cresset/api"
	"cresset/tracks"
)

func Example() {
	bay := api.Grid{W: 4, H: 3, Size: 10}
	lines, e := tracks.Parallel(api.Spot{}, api.Spot{X: 40, Y: 30}, 10, 0)
	fmt.Println(lines, e == api.OK)
	low, high, e := tracks.Length([]api.Spot{{}, {X: 3}, {X: 5, Y: 2}})
	fmt.Println(low, high, e == api.OK)
	seconds, e := tracks.Seconds(lines, 5000)
	fmt.Println(seconds, e == api.OK)
	covered, e := tracks.Covers(bay, lines[:4], 5)
	fmt.Println(covered, e == api.OK)
	border, e := tracks.Outline(bay, covered)
	fmt.Println(border, e == api.OK)
	// Output:
	// [{0 5} {40 5} {40 15} {0 15} {0 25} {40 25}] true
	// 5 6 true
	// 28 true
	// [{0 0 4} {1 0 4}] true
	// [{0 0} {40 0} {40 20} {0 20} {0 0}] true
}
