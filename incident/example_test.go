package incident_test

import (
	"fmt"

	"cresset/api"
	"cresset/incident"
)

// Example is what README.md shows.
func Example() {
	flare := api.Report{Kind: api.Flare, Source: "buzzard", Where: []api.Spot{{}}, Souls: -1, Trust: 300}
	call := api.Report{Kind: api.Call, Time: 60, Source: "kestrel", Where: []api.Spot{{X: 30, Y: 30}}, Souls: 4, Trust: 700}
	book, e := incident.New(3600, 3600)
	first, reason, e := book.Take(flare)
	fmt.Println(first, reason == api.Nothing, e)
	second, reason, e := book.Take(call)
	fmt.Println(second, reason == api.Alone, e)
	n, e := book.Close(0)
	fmt.Println(n, e == api.ErrState)
	e = book.Prove(api.Proof{Kind: api.Found, Time: 900, By: "heron", Where: call.Where, Count: 4})
	n, e = book.Close(0)
	fmt.Println(n, e, book.Open())
	// Output:
	// 0 true 0
	// 0 true 0
	// 0 true
	// -1 0 []
}
