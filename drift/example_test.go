package drift_test

import (
	"fmt"

	"cresset/api"
	"cresset/drift"
)

func Example() {
	bay := api.Grid{W: 5, H: 2, Size: 100, Land: []api.Run{{Y: 0, From: 4, To: 5}, {Y: 1, From: 4, To: 5}}}
	all := []api.Run{{Y: 0, From: 0, To: 5}, {Y: 1, From: 0, To: 5}}
	flows := api.Flows{
		Currents: []api.Flow{{To: 86400, Where: all}},
		Winds:    []api.Flow{{To: 86400, Where: all, Low: api.Spot{X: 5000}, High: api.Spot{X: 5000}}},
	}
	raft := api.Drifter{DownLow: 20, DownHigh: 20, CrossLow: 10, CrossHigh: 20}
	seen := api.Patch{Left: []api.Run{{Y: 0, From: 1, To: 2}}}
	later, e := drift.Run(bay, flows, raft, seen, 1000, 3)
	fmt.Println(later[1], later[2], e == api.OK)
	found := api.Patch{Time: 3000, Beached: []api.Run{{Y: 1, From: 4, To: 5}}}
	way, e := drift.Between(bay, flows, raft, seen, found, 1000)
	fmt.Println(way[1].Left, way[2].Left, way[3].Beached, e == api.OK)
	// Output:
	// {2000 [{0 3 4} {1 3 4}] [] [] true} {3000 [] [] [{0 4 5} {1 4 5}] true} true
	// [{0 2 3} {1 2 3}] [{0 3 4} {1 3 4}] [{1 4 5}] true
}
