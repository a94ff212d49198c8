package centre_test

import (
	"fmt"

	"cresset/api"
	"cresset/centre"
)

// Example is what README.md shows, with what it has from other layers.
func Example() {
	one, half := api.Part{Num: "1", Den: "1"}, api.Part{Num: "1", Den: "2"}
	raft := api.Belief{
		Sea: api.Grid{W: 3, H: 1, Size: 100},
		Scenes: []api.Scene{{
			Weight:  one,
			Start:   []api.Share{{Weight: one}},
			Strides: []api.Stride{{Chance: half}, {DX: 1, Chance: half}},
		}},
	}
	call := api.Report{Kind: api.Call, Time: 60, Source: "kestrel", Where: []api.Spot{{X: 30, Y: 30}}, Souls: 4, Trust: 700}
	heron := api.Unit{Name: "heron", Speed: 3600, Fuel: 1000, Burn: 3600, Reserve: 100, Hours: 10000, Sea: 5, Wind: 10}

	rules := api.Rules{Window: 3600, Drift: 3600, Limit: half, Pieces: 2}
	c, e := centre.New(rules)
	log := []api.Matter{
		{Kind: api.Hear, Report: call},
		{Kind: api.Begin, N: 0, Belief: raft},
		{Kind: api.Suspend, N: 0},
		{Kind: api.Send, Unit: heron, Start: 100, Route: []api.Way{{To: api.Spot{X: 300}}}},
		{Kind: api.Look, N: 0, Notice: api.Notice{Of: 1, Where: []api.Run{{From: 0, To: 1}}, In: half, Out: one}},
		{Kind: api.Suspend, N: 0},
		{Kind: api.Close, N: 0},
	}
	for n, m := range log {
		d, e := c.Do(m)
		line, f := c.Line(n)
		fmt.Println(d, e, line, f)
	}
	now, e := c.Status(0)
	then, e := c.Then(4, 0)
	taken := c.Taken()
	again, e := centre.Replay(rules, log)
	fmt.Println(now, then, taken, again.Count(), e)
	// Output:
	// {0 0 4 { }} 0 0 hear ok 0 4 0
	// {0 0 0 {1 1}} 0 1 begin ok 0 0 left 1 0
	// {9 0 0 {1 1}} 0 2 suspend refused 9 0 0 left 1 0
	// {0 0 0 { }} 0 3 send ok 0 0 0
	// {0 0 0 {1 2}} 0 4 look ok 0 0 left 1/2 0
	// {0 0 0 {1 2}} 0 5 suspend ok 0 0 left 1/2 0
	// {9 0 0 { }} 0 6 close refused 9 0 0 0
	// {true 2 0 1 {1 2}} {true 1 0 0 {1 1}} [0] 7 0
}
