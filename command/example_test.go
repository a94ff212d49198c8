package command_test

import (
	"fmt"

	"cresset/api"
	"cresset/command"
)

// Example is what README.md shows.
func Example() {
	centre, e := command.NewCentre(2, 10, 100)
	heron, e := command.NewNode(1, 10)
	e = centre.Want(1)
	ask, e := heron.Ask()
	grant, e := centre.Hear(ask)
	e = heron.Hear(grant)
	node, since := centre.Lease()
	fmt.Println(ask, grant, heron.Holds(), centre.Holds(), node, since, e == api.OK)
	for range 10 {
		e = heron.Tick()
	}
	clock, end := heron.Ends()
	fmt.Println(heron.Holds(), clock, end, e == api.OK)
	back, e := heron.Return()
	grant, e = centre.Hear(back)
	fmt.Println(back, grant, centre.Holds(), e == api.OK)
	fmt.Println(command.Wait(10, 100))
	// Output:
	// {1 1 1} {2 1 1} true false 1 0 true
	// false 10 10 true
	// {3 1 1} {0 0 0} true true
	// 12 0
}
