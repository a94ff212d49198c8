package centre_test

import (
	"reflect"
	"strings"
	"testing"

	"cresset/api"
	"cresset/belief"
	"cresset/centre"
	"cresset/weight"
)

const (
	big   = 1<<63 - 1
	small = -1 << 63
)

// accepted is the error of a decision by which nothing is refused.
const accepted = api.OK

// longName is the longest name.
var longName = "a" + strings.Repeat("9", api.MaxName-1)

// outside are numbers that are not from least to most.
func outside(least, most int) []int {
	return []int{least - 1, most + 1, least - 1000, most + 1000, small, big}
}

// changed returns a value after a change.
func changed[T any](x T, change func(*T)) T {
	change(&x)
	return x
}

// of returns the fraction a / b.
func of(a, b int) api.Part {
	p, e := weight.Ratio(a, b)
	if e != api.OK {
		panic(e)
	}
	return p
}

// spot returns a place.
func spot(x, y int) api.Spot {
	return api.Spot{X: x, Y: y}
}

// rules are those of the chapter's examples.
func rules() api.Rules {
	return api.Rules{Window: 3600, Drift: 3600, Limit: of(1, 4), Pieces: 2}
}

// call returns a call by kestrel at a time in a place.
func call(time, x, y int) api.Report {
	return api.Report{Kind: api.Call, Time: time, Source: "kestrel", Where: []api.Spot{{X: x, Y: y}}, Souls: 4, Trust: 700}
}

// callAbout returns a call that is about somebody.
func callAbout(about string, time, x, y int) api.Report {
	return changed(call(time, x, y), func(r *api.Report) { r.About = about })
}

// foundBy returns the proof that so many persons were found.
func foundBy(report, time, count int) api.Proof {
	return api.Proof{Kind: api.Found, Report: report, Time: time, By: "heron", Where: []api.Spot{{}}, Count: count}
}

// withdrawn returns the proof that kestrel takes a report back.
func withdrawn(report, time int) api.Proof {
	return api.Proof{Kind: api.Withdrawn, Report: report, Time: time, By: "kestrel", Where: []api.Spot{{}}}
}

// raft is the belief of the chapter's examples: it begins in (0, 0), and stays there.
func raft() api.Belief {
	return api.Belief{
		Sea: api.Grid{W: 3, H: 1, Size: 100},
		Scenes: []api.Scene{{
			Weight:  of(1, 1),
			Start:   []api.Share{{Weight: of(1, 1)}},
			Strides: []api.Stride{{Chance: of(1, 1)}},
		}},
	}
}

// drifter is like raft, but stays where it is, or drifts to the east.
func drifter() api.Belief {
	b := raft()
	b.Scenes[0].Strides = []api.Stride{{Chance: of(1, 2)}, {DX: 1, Chance: of(1, 2)}}
	return b
}

// fine is a belief with weights of so many digits that they stop to fit behind some steps: at once, if it begins in many cells.
func fine(cells int) api.Belief {
	b := drifter()
	b.Sea.W = 200
	b.Scenes[0].Start = nil
	for x := range cells {
		b.Scenes[0].Start = append(b.Scenes[0].Start, api.Share{Cell: api.Cell{X: x}, Weight: of(1, 999999999-2*x)})
	}
	return b
}

// wrongBeliefs are not valid.
func wrongBeliefs() []api.Belief {
	return []api.Belief{
		{},
		changed(raft(), func(b *api.Belief) { b.Sea.W = 0 }),
		changed(raft(), func(b *api.Belief) { b.Scenes = nil }),
		changed(raft(), func(b *api.Belief) { b.Scenes[0].Weight = of(0, 1) }),
		changed(raft(), func(b *api.Belief) { b.Scenes[0].Weight = api.Part{Num: "2", Den: "2"} }),
		changed(raft(), func(b *api.Belief) { b.Scenes[0].Start[0].Cell.X = 3 }),
		changed(raft(), func(b *api.Belief) { b.Scenes[0].Start = nil }),
		changed(raft(), func(b *api.Belief) { b.Scenes[0].Strides[0].Chance = of(1, 2) }),
		changed(raft(), func(b *api.Belief) { b.Scenes[0].Strides[0].DX = 9 }),
	}
}

// vain is a search in (0, 0) at a time that finds what is there with the chance 1/2.
func vain(time int) api.Notice {
	return api.Notice{Time: time, Of: 1, Where: []api.Run{{From: 0, To: 1}}, In: of(1, 2), Out: of(1, 1)}
}

// dull is a notice that changes nothing.
func dull(time int) api.Notice {
	return api.Notice{Time: time, In: of(1, 1), Out: of(1, 1)}
}

// wrongNotices are not valid.
func wrongNotices() []api.Notice {
	return []api.Notice{
		{},
		changed(vain(0), func(n *api.Notice) { n.Time = -1 }),
		changed(vain(0), func(n *api.Notice) { n.Time = api.MaxTimes + 1 }),
		changed(vain(0), func(n *api.Notice) { n.Of = 256 }),
		changed(vain(0), func(n *api.Notice) { n.Where[0].To = 4 }),
		changed(vain(0), func(n *api.Notice) { n.Where[0].To = 0 }),
		changed(vain(0), func(n *api.Notice) { n.In = of(3, 2) }),
		changed(vain(0), func(n *api.Notice) { n.In = api.Part{} }),
		changed(vain(0), func(n *api.Notice) { n.Out = api.Part{Num: "0", Den: "2"} }),
	}
}

// heron is a unit that goes 1 m and burns 1 in a second.
func heron() api.Unit {
	return api.Unit{Name: "heron", Speed: 3600, Fuel: 1000, Burn: 3600, Reserve: 100, Hours: 10000, Sea: 5, Wind: 10}
}

// heronAt is heron on a level.
func heronAt(level int) api.Unit {
	return changed(heron(), func(u *api.Unit) { u.Level = level })
}

// way returns a way to a place, with a stay.
func way(x, y, stay int) api.Way {
	return api.Way{To: spot(x, y), Stay: stay}
}

// The matters.

func hear(r api.Report) api.Matter { return api.Matter{Kind: api.Hear, Report: r} }

func prove(p api.Proof) api.Matter { return api.Matter{Kind: api.Prove, Proof: p} }

func closing(n int) api.Matter { return api.Matter{Kind: api.Close, N: n} }

func begin(n int, b api.Belief) api.Matter { return api.Matter{Kind: api.Begin, N: n, Belief: b} }

func pass(n int) api.Matter { return api.Matter{Kind: api.Pass, N: n} }

func look(n int, notice api.Notice) api.Matter {
	return api.Matter{Kind: api.Look, N: n, Notice: notice}
}

func suspend(n int) api.Matter { return api.Matter{Kind: api.Suspend, N: n} }

func send(u api.Unit, start int, route ...api.Way) api.Matter {
	return api.Matter{Kind: api.Send, Unit: u, Start: start, Route: route}
}

func recall(n int) api.Matter { return api.Matter{Kind: api.Recall, N: n} }

// The decisions.

func gets(n, why int) api.Decision { return api.Decision{N: n, Why: why} }

func leaves(n int, left api.Part) api.Decision { return api.Decision{N: n, Left: left} }

func refused(e api.Errno) api.Decision { return api.Decision{Error: e} }

// How incidents stand.

func open() api.Status { return api.Status{Open: true} }

func searched(state, steps, notices int, left api.Part) api.Status {
	return api.Status{Open: true, Search: state, Steps: steps, Notices: notices, Left: left}
}

func newCentre(t *testing.T, r api.Rules) *centre.Centre {
	t.Helper()
	c, e := centre.New(r)
	if c == nil || e != api.OK {
		t.Fatalf("a centre with %v: %v, error %d", r, c, e)
	}
	return c
}

// centreOf returns a centre with the rules of the chapter's examples that has accepted matters.
func centreOf(t *testing.T, l ...api.Matter) *centre.Centre {
	t.Helper()
	c := newCentre(t, rules())
	for i, m := range l {
		if d, e := c.Do(m); e != api.OK || d.Error != accepted {
			t.Fatalf("the matter %d: %v, error %d", i, d, e)
		}
	}
	return c
}

// decides checks the decision of a matter; if that is refused, nothing else has changed.
func decides(t *testing.T, c *centre.Centre, m api.Matter, want api.Decision) {
	t.Helper()
	before := nowOf(c)
	if d, e := c.Do(m); d != want || e != api.OK {
		t.Fatalf("the matter %v: %v, error %d; not %v", m, d, e, want)
	}
	if after := nowOf(c); want.Error != accepted && !reflect.DeepEqual(after, before) {
		t.Fatalf("the matter %v was refused; it was %v, and is %v", m, before, after)
	}
}

// refuses checks that matters are refused with an error, and nothing beside it.
func refuses(t *testing.T, c *centre.Centre, e api.Errno, l ...api.Matter) {
	t.Helper()
	for _, m := range l {
		decides(t, c, m, refused(e))
	}
}

// stands checks how an incident stands.
func stands(t *testing.T, c *centre.Centre, incident int, want api.Status) {
	t.Helper()
	if s, e := c.Status(incident); s != want || e != api.OK {
		t.Fatalf("the incident %d stands %v, error %d; not %v", incident, s, e, want)
	}
}

// now is how all incidents stand, and which plans are taken.
type now struct {
	statuses []api.Status
	taken    []int
}

func nowOf(c *centre.Centre) now {
	return now{statusesAt(c, c.Count()), c.Taken()}
}

// statusesAt returns how all incidents that were there after the first n matters stood then.
func statusesAt(c *centre.Centre, n int) []api.Status {
	var l []api.Status
	for {
		s, e := c.Then(n, len(l))
		if e != api.OK {
			return l
		}
		l = append(l, s)
	}
}

// view is all that a centre tells.
type view struct {
	now
	matters   []api.Matter
	decisions []api.Decision
	lines     []string
	then      [][]api.Status
}

func viewOf(t *testing.T, c *centre.Centre) view {
	t.Helper()
	v := view{now: nowOf(c)}
	for n := range c.Count() {
		m, d, e := c.Log(n)
		line, f := c.Line(n)
		if e != api.OK || f != api.OK {
			t.Fatalf("Log of %d: error %d; Line: error %d", n, e, f)
		}
		v.matters, v.decisions, v.lines = append(v.matters, m), append(v.decisions, d), append(v.lines, line)
	}
	for n := range c.Count() + 1 {
		v.then = append(v.then, statusesAt(c, n))
	}
	for i, want := range v.statuses {
		stands(t, c, i, want)
	}
	return v
}

// isView checks what a centre tells.
func isView(t *testing.T, c *centre.Centre, want view) {
	t.Helper()
	if v := viewOf(t, c); !reflect.DeepEqual(v, want) {
		t.Fatalf("the centre tells\n%v, not\n%v", v, want)
	}
}

// filterOf returns the error of Filter for a belief, in so many steps.
func filterOf(b api.Belief, steps int, notices ...api.Notice) api.Errno {
	_, _, e := belief.Filter(b, notices, steps)
	return e
}

// leftOf returns the chance that notices leave of a belief, in so many steps.
func leftOf(t *testing.T, b api.Belief, steps int, notices ...api.Notice) api.Part {
	t.Helper()
	_, left, e := belief.Filter(b, notices, steps)
	if e != api.OK {
		t.Fatalf("Filter: error %d", e)
	}
	return left
}
