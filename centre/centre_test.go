package centre_test

import (
	"reflect"
	"slices"
	"strings"
	"testing"

	"cresset/api"
	"cresset/centre"
)

// wrongRules are not valid.
func wrongRules() []api.Rules {
	var l []api.Rules
	add := func(change func(r *api.Rules)) {
		l = append(l, changed(rules(), change))
	}
	for _, n := range outside(0, api.MaxWindow) {
		add(func(r *api.Rules) { r.Window = n })
	}
	for _, n := range outside(0, api.MaxDrift) {
		add(func(r *api.Rules) { r.Drift = n })
	}
	for _, n := range outside(1, api.MaxPieces) {
		add(func(r *api.Rules) { r.Pieces = n })
	}
	long := api.Nat(strings.Repeat("9", api.MaxDigits+1))
	for _, p := range []api.Part{
		{}, {Num: "1"}, {Den: "1"}, {Num: "1", Den: "0"}, {Num: "0", Den: "0"}, {Num: "0", Den: "2"}, {Num: "2", Den: "4"}, {Num: "01", Den: "4"},
		{Num: "-1", Den: "4"}, {Num: "1", Den: "x"}, {Num: "1", Den: long}, {Num: "2", Den: "1"}, {Num: "5", Den: "4"}, {Num: long[1:], Den: long[2:]},
	} {
		add(func(r *api.Rules) { r.Limit = p })
	}
	return append(l, api.Rules{})
}

// rightRules are valid.
func rightRules() []api.Rules {
	long := strings.Repeat("9", api.MaxDigits-1)
	return []api.Rules{
		rules(),
		{Limit: of(0, 1), Pieces: 1},
		{Window: api.MaxWindow, Drift: api.MaxDrift, Limit: of(1, 1), Pieces: api.MaxPieces},
		{Window: 1, Drift: 2, Limit: api.Part{Num: api.Nat(long + "7"), Den: api.Nat(long + "8")}, Pieces: 19},
	}
}

// P14.1
func TestRules(t *testing.T) {
	for _, r := range rightRules() {
		c, e := centre.New(r)
		d, f := centre.Replay(r, nil)
		if !centre.CheckRules(r) || e != api.OK || f != api.OK {
			t.Fatalf("%v are refused: New has the error %d, Replay %d", r, e, f)
		}
		isView(t, c, view{then: [][]api.Status{nil}})
		isView(t, d, view{then: [][]api.Status{nil}})
	}
	for _, r := range wrongRules() {
		if centre.CheckRules(r) {
			t.Errorf("%v are valid", r)
		}
		if c, e := centre.New(r); c != nil || e != api.ErrArg {
			t.Errorf("New with %v: %v, error %d", r, c, e)
		}
		for _, l := range [][]api.Matter{nil, {hear(call(60, 0, 0))}, make([]api.Matter, api.MaxMatters+1)} {
			if c, e := centre.Replay(r, l); c != nil || e != api.ErrArg {
				t.Errorf("Replay of %d matters with %v: %v, error %d", len(l), r, c, e)
			}
		}
	}
}

// P14.1: what has come to a centre by Replay is as if it had come by Do.
func TestReplay(t *testing.T) {
	l := story()
	c := newCentre(t, rules())
	for _, m := range l {
		c.Do(m)
	}
	d, e := centre.Replay(rules(), l)
	if e != api.OK {
		t.Fatalf("Replay: error %d", e)
	}
	isView(t, d, viewOf(t, c))
	more := suspend(0)
	want, _ := c.Do(more)
	decides(t, d, more, want)
	isView(t, d, viewOf(t, c))
}

// P14.1, P14.2: the greatest number of matters, refused or not.
func TestFull(t *testing.T) {
	l := make([]api.Matter, api.MaxMatters)
	l[7] = hear(call(60, 0, 0))
	c, e := centre.Replay(rules(), l)
	if c == nil || e != api.OK || c.Count() != api.MaxMatters {
		t.Fatalf("Replay of %d matters: %v, error %d", len(l), c, e)
	}
	if c, e := centre.Replay(rules(), append(l, api.Matter{})); c != nil || e != api.ErrFull {
		t.Errorf("Replay of one more: %v, error %d", c, e)
	}
	d := newCentre(t, rules())
	for _, m := range l {
		if _, e := d.Do(m); e != api.OK {
			t.Fatalf("Do: error %d", e)
		}
	}
	before := viewOf(t, c)
	for _, c := range []*centre.Centre{c, d} {
		for _, m := range append(story(), api.Matter{}) {
			if d, e := c.Do(m); d != (api.Decision{}) || e != api.ErrFull {
				t.Errorf("Do of one more: %v, error %d", d, e)
			}
		}
		isView(t, c, before)
	}
}

// P14.2: an object that is nil, or that no call made.
func TestNil(t *testing.T) {
	there := centreOf(t, hear(call(60, 0, 0)), send(heron(), 0))
	before := viewOf(t, there)
	copied := *there
	for _, c := range []*centre.Centre{nil, {}, new(centre.Centre), &copied} {
		for _, m := range append(story(), api.Matter{}) {
			if d, e := c.Do(m); d != (api.Decision{}) || e != api.ErrNil {
				t.Errorf("Do: %v, error %d", d, e)
			}
		}
		for _, n := range []int{0, 1, -1, small, big} {
			if m, d, e := c.Log(n); !reflect.DeepEqual(m, api.Matter{}) || d != (api.Decision{}) || e != api.ErrNil {
				t.Errorf("Log of %d: %v, %v, error %d", n, m, d, e)
			}
			if s, e := c.Status(n); s != (api.Status{}) || e != api.ErrNil {
				t.Errorf("Status of %d: %v, error %d", n, s, e)
			}
			if s, e := c.Then(n, 0); s != (api.Status{}) || e != api.ErrNil {
				t.Errorf("Then of %d: %v, error %d", n, s, e)
			}
			if line, e := c.Line(n); line != "" || e != api.ErrNil {
				t.Errorf("Line of %d: %q, error %d", n, line, e)
			}
		}
		if n, l := c.Count(), c.Taken(); n != 0 || l != nil {
			t.Errorf("%d and %v", n, l)
		}
	}
	isView(t, there, before)
}

// P14.2: kinds that the chapter does not list.
func TestOdd(t *testing.T) {
	c := centreOf(t, hear(call(60, 0, 0)), begin(0, raft()), send(heron(), 0))
	for _, kind := range append(outside(api.Hear, api.Recall), 100, 1<<32+1) {
		for _, m := range story() {
			m.Kind = kind
			refuses(t, c, api.ErrArg, m)
		}
	}
	stands(t, c, 0, searched(api.Active, 0, 0, of(1, 1)))
}

// P2: two centres share nothing.
func TestTwoCentres(t *testing.T) {
	a, b := newCentre(t, rules()), newCentre(t, changed(rules(), func(r *api.Rules) { r.Limit = of(1, 1) }))
	for i, m := range story() {
		if i%2 == 0 {
			a.Do(m)
		}
	}
	for _, m := range []api.Matter{hear(call(60, 0, 0)), begin(0, raft()), suspend(0)} {
		b.Do(m)
	}
	stands(t, b, 0, searched(api.Suspended, 0, 0, of(1, 1)))
	even := []api.Matter{}
	for i, m := range story() {
		if i%2 == 0 {
			even = append(even, m)
		}
	}
	c, _ := centre.Replay(rules(), even)
	isView(t, a, viewOf(t, c))
	if l := b.Taken(); !slices.Equal(l, nil) {
		t.Errorf("%v are taken", l)
	}
}

// story is matters of all kinds; some of them are refused.
func story() []api.Matter {
	return []api.Matter{
		hear(call(60, 0, 0)),
		begin(0, drifter()),
		suspend(0),
		look(0, vain(0)),
		look(0, vain(1)),
		pass(0),
		look(0, vain(0)),
		suspend(0),
		send(heron(), 100, way(300, 0, 10), way(300, 100, 0)),
		send(heron(), 900, way(300, 0, 184), way(300, 100, 0)),
		send(heron(), 100, way(200, 0, 10)),
		hear(call(70, 5000, 0)),
		recall(0),
		send(heron(), 100, way(200, 0, 10)),
		hear(call(90, 30, 30)),
		closing(0),
		prove(foundBy(0, 4000, 4)),
		begin(1, raft()),
		prove(withdrawn(1, 80)),
		closing(1),
		closing(0),
		{},
		hear(call(100, 0, 0)),
		pass(0),
	}
}
