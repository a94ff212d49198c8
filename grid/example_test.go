package grid_test

import (
	"fmt"

	"cresset/api"
	"cresset/grid"
)

func Example() {
	g := api.Grid{W: 4, H: 3, Size: 10, Land: []api.Run{{Y: 0, From: 0, To: 2}}}
	near, e := grid.Disc(g, api.Spot{X: 5, Y: 5}, 5)
	fmt.Println(near, e == api.OK)
	moved, off, e := grid.Grow(g, near, api.Push{Low: api.Spot{X: 1}, High: api.Spot{X: 10}})
	fmt.Println(moved, off, e == api.OK)
	fmt.Print(grid.Draw(g, moved))
	// Output:
	// [{0 0 2} {1 0 1}] true
	// [{0 0 3} {1 0 2}] false true
	// ....
	// ##..
	// @@#.
}
