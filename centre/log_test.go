package centre_test

import (
	"reflect"
	"slices"
	"testing"

	"cresset/api"
	"cresset/centre"
)

// richMatter is a matter that has something in each of its fields, whatever its kind is.
func richMatter(kind int) api.Matter {
	b := drifter()
	b.Sea.Land = []api.Run{{From: 2, To: 3}}
	p := foundBy(0, 60, 4)
	p.Where = []api.Spot{{X: 50, Y: 60}}
	return api.Matter{
		Kind: kind, Report: call(60, 30, 40), Proof: p, Belief: b, Notice: vain(0),
		Unit: heron(), Start: 100, Route: []api.Way{way(300, 0, 10), way(300, 100, 0)}, Sky: []api.Front{{From: 1, To: 2, Sea: 3}},
	}
}

// kinds are those that the chapter lists, and some others.
func kinds() []int {
	return []int{api.Hear, api.Begin, api.Look, api.Pass, api.Suspend, api.Send, api.Recall, api.Prove, api.Close, 0, 10, -1, small, big}
}

// P14.3
func TestLog(t *testing.T) {
	c := newCentre(t, rules())
	var matters []api.Matter
	var decisions []api.Decision
	for _, m := range append(story(), api.Matter{Kind: -7, N: 9}, richMatter(api.Hear)) {
		for _, n := range outside(0, len(matters)-1) {
			if m, d, e := c.Log(n); !reflect.DeepEqual(m, api.Matter{}) || d != (api.Decision{}) || e != api.ErrNone {
				t.Fatalf("Log of %d: %v, %v, error %d", n, m, d, e)
			}
		}
		d, _ := c.Do(m)
		matters, decisions = append(matters, m), append(decisions, d)
		if n := c.Count(); n != len(matters) {
			t.Fatalf("%d have come, not %d", n, len(matters))
		}
		for n, want := range matters {
			if m, d, e := c.Log(n); !reflect.DeepEqual(m, want) || d != decisions[n] || e != api.OK {
				t.Fatalf("Log of %d: %v, %v, error %d; not %v, %v", n, m, d, e, want, decisions[n])
			}
		}
	}
}

// P14.3: a matter is kept whole, also what does not belong to its kind, and what is not valid.
func TestLogWhole(t *testing.T) {
	c := newCentre(t, rules())
	var want []api.Matter
	for _, kind := range kinds() {
		wrong := richMatter(kind)
		wrong.N, wrong.Start, wrong.Report.Kind, wrong.Unit.Name, wrong.Belief.Sea.W, wrong.Notice.Of = -1, -1, 77, "?", -5, 999
		for _, m := range []api.Matter{richMatter(kind), wrong} {
			c.Do(m)
			want = append(want, m)
		}
	}
	for n := range want {
		if m, _, e := c.Log(n); !reflect.DeepEqual(m, want[n]) || e != api.OK {
			t.Errorf("Log of %d: %v, error %d; not %v", n, m, e, want[n])
		}
	}
}

// spoil changes all memory that a matter has.
func spoil(m *api.Matter) {
	for _, s := range m.Belief.Scenes {
		clear(s.Start[:cap(s.Start)])
		clear(s.Strides[:cap(s.Strides)])
	}
	clear(m.Belief.Scenes[:cap(m.Belief.Scenes)])
	clear(m.Belief.Sea.Land[:cap(m.Belief.Sea.Land)])
	clear(m.Report.Where[:cap(m.Report.Where)])
	clear(m.Proof.Where[:cap(m.Proof.Where)])
	clear(m.Notice.Where[:cap(m.Notice.Where)])
	clear(m.Route[:cap(m.Route)])
	clear(m.Sky[:cap(m.Sky)])
}

// R4, P2: a centre shares no memory with what came to it, nor with what it returned.
func TestMemory(t *testing.T) {
	for _, replay := range []bool{false, true} {
		c := newCentre(t, rules())
		var l []api.Matter
		for _, kind := range kinds() {
			l = append(l, richMatter(kind))
		}
		if replay {
			c, _ = centre.Replay(rules(), l)
		} else {
			for _, m := range l {
				c.Do(m)
			}
		}
		for i := range l {
			if !reflect.DeepEqual(l[i], richMatter(l[i].Kind)) {
				t.Fatalf("the matter became %v", l[i])
			}
			spoil(&l[i])
		}
		before := viewOf(t, c)
		for n := range c.Count() {
			m, _, _ := c.Log(n)
			if want := richMatter(kinds()[n]); !reflect.DeepEqual(m, want) {
				t.Fatalf("Log of %d: %v, not %v", n, m, want)
			}
			spoil(&m)
		}
		clear(c.Taken())
		isView(t, c, before)
		decides(t, c, hear(call(60, 0, 0)), gets(1, api.Nothing))
		decides(t, c, begin(1, drifter()), leaves(1, of(1, 1)))
		decides(t, c, look(1, vain(0)), leaves(1, of(1, 2)))
		decides(t, c, send(heron(), 100), gets(1, 0))
	}
}

// R4: what is known of a search stays as it is, whatever becomes of the matters.
func TestMemoryOfSearch(t *testing.T) {
	c := centreOf(t, hear(call(60, 0, 0)))
	b, n := begin(0, drifter()), look(0, vain(0))
	c.Do(b)
	c.Do(n)
	spoil(&b)
	spoil(&n)
	for i := range c.Count() {
		m, _, _ := c.Log(i)
		spoil(&m)
	}
	decides(t, c, pass(0), leaves(0, of(1, 2)))
	decides(t, c, look(0, vain(1)), leaves(0, of(3, 8)))
}

// R3: nil and empty lists are the same.
func TestNilAndEmpty(t *testing.T) {
	empty := send(heron(), 100)
	empty.Route, empty.Sky = []api.Way{}, []api.Front{}
	decides(t, centreOf(t), empty, gets(0, 0))
	b := raft()
	b.Sea.Land = []api.Run{}
	c := centreOf(t, hear(call(60, 0, 0)))
	decides(t, c, begin(0, b), leaves(0, of(1, 1)))
	for _, l := range [][]api.Run{nil, {}} {
		decides(t, c, look(0, api.Notice{Of: 1, Where: l, In: of(0, 1), Out: of(1, 1)}), leaves(0, of(1, 1)))
	}
	if d, e := centre.Replay(rules(), []api.Matter{}); d.Count() != 0 || e != api.OK {
		t.Errorf("Replay of an empty list: %v, error %d", d, e)
	}
}

// P14.4
func TestStatus(t *testing.T) {
	c := newCentre(t, rules())
	none := func(incidents int) {
		t.Helper()
		for _, n := range outside(0, incidents-1) {
			if s, e := c.Status(n); s != (api.Status{}) || e != api.ErrNone {
				t.Fatalf("Status of %d: %v, error %d", n, s, e)
			}
		}
	}
	none(0)
	decides(t, c, hear(call(60, 0, 0)), gets(0, api.Nothing))
	none(1)
	stands(t, c, 0, open())
	decides(t, c, begin(0, drifter()), leaves(0, of(1, 1)))
	stands(t, c, 0, searched(api.Active, 0, 0, of(1, 1)))
	decides(t, c, pass(0), leaves(0, of(1, 1)))
	stands(t, c, 0, searched(api.Active, 1, 0, of(1, 1)))
	decides(t, c, look(0, vain(0)), leaves(0, of(1, 2)))
	stands(t, c, 0, searched(api.Active, 1, 1, of(1, 2)))
	decides(t, c, look(0, vain(0)), leaves(0, of(1, 4)))
	decides(t, c, suspend(0), leaves(0, of(1, 4)))
	stands(t, c, 0, searched(api.Suspended, 1, 2, of(1, 4)))
	decides(t, c, hear(call(60, 5000, 0)), gets(1, api.Nothing))
	none(2)
	stands(t, c, 1, open())
	decides(t, c, prove(foundBy(0, 60, 4)), gets(0, 0))
	stands(t, c, 0, searched(api.Suspended, 1, 2, of(1, 4)))
	decides(t, c, closing(0), gets(0, -1))
	stands(t, c, 0, api.Status{})
	stands(t, c, 1, open())
	none(2)
}

// P14.4: how each incident stood after each number of matters; plans, and what is refused, do not matter.
func TestThen(t *testing.T) {
	first := open()
	begun, looked := searched(api.Active, 0, 0, of(1, 1)), searched(api.Active, 0, 1, of(1, 4))
	suspended := searched(api.Suspended, 0, 1, of(1, 4))
	quarter := changed(vain(0), func(n *api.Notice) { n.In = of(1, 4) })
	c := newCentre(t, rules())
	want := [][]api.Status{nil}
	for _, x := range []struct {
		matter api.Matter
		want   []api.Status
	}{
		{send(heron(), 100), nil},
		{hear(api.Report{}), nil},
		{hear(call(60, 0, 0)), []api.Status{first}},
		{send(heronAt(1), 100), []api.Status{first}},
		{begin(0, raft()), []api.Status{begun}},
		{hear(call(60, 5000, 0)), []api.Status{begun, open()}},
		{recall(0), []api.Status{begun, open()}},
		{suspend(0), []api.Status{begun, open()}},
		{look(0, quarter), []api.Status{looked, open()}},
		{pass(1), []api.Status{looked, open()}},
		{suspend(0), []api.Status{suspended, open()}},
		{recall(1), []api.Status{suspended, open()}},
		{prove(withdrawn(1, 60)), []api.Status{suspended, open()}},
		{closing(0), []api.Status{suspended, open()}},
		{closing(1), []api.Status{suspended, {}}},
		{hear(call(60, 0, 0)), []api.Status{looked, {}}},
		{api.Matter{}, []api.Status{looked, {}}},
	} {
		c.Do(x.matter)
		want = append(want, x.want)
		for n := range want {
			if l := statusesAt(c, n); !slices.Equal(l, want[n]) {
				t.Fatalf("after %d matters the incidents stood %v, not %v", n, l, want[n])
			}
			for _, i := range outside(0, len(want[n])-1) {
				if s, e := c.Then(n, i); s != (api.Status{}) || e != api.ErrNone {
					t.Fatalf("Then of %d and %d: %v, error %d", n, i, s, e)
				}
			}
		}
		for _, n := range outside(0, c.Count()) {
			if s, e := c.Then(n, 0); s != (api.Status{}) || e != api.ErrNone {
				t.Fatalf("Then of %d: %v, error %d", n, s, e)
			}
		}
	}
}

// P14.5
func TestLine(t *testing.T) {
	want := []string{
		"0 hear ok 0 4",
		"1 begin ok 0 0 left 1",
		"2 suspend refused 9 0 0 left 1",
		"3 look ok 0 0 left 1/2",
		"4 look refused 2 0 0",
		"5 pass ok 0 0 left 1/2",
		"6 look ok 0 0 left 1/4",
		"7 suspend ok 0 0 left 1/4",
		"8 send ok 0 0",
		"9 send refused 9 0 1",
		"10 send refused 8 0 0",
		"11 hear ok 1 4",
		"12 recall ok 0 0",
		"13 send ok 1 0",
		"14 hear ok 0 2",
		"15 close refused 9 0 0",
		"16 prove ok 0 0",
		"17 begin ok 1 0 left 1",
		"18 prove ok 1 0",
		"19 close ok 1 -1",
		"20 close ok 0 -1",
		"21 odd refused 2 0 0",
		"22 hear ok 2 4",
		"23 pass refused 9 0 0",
	}
	c := newCentre(t, rules())
	for i, m := range story() {
		for _, n := range outside(0, i-1) {
			if line, e := c.Line(n); line != "" || e != api.ErrNone {
				t.Fatalf("Line of %d: %q, error %d", n, line, e)
			}
		}
		c.Do(m)
		for n, want := range want[:i+1] {
			if line, e := c.Line(n); line != want || e != api.OK {
				t.Fatalf("Line of %d: %q, error %d; not %q", n, line, e, want)
			}
		}
	}
}

// P14.5: of each kind, with numbers of any size.
func TestLineOfAny(t *testing.T) {
	c := newCentre(t, rules())
	for _, x := range []struct {
		matter api.Matter
		want   string
	}{
		{hear(api.Report{}), "0 hear refused 2 0 0"},
		{prove(foundBy(0, 60, 4)), "1 prove refused 7 0 0"},
		{closing(-12), "2 close refused 7 -12 -1"},
		{closing(big), "3 close refused 7 9223372036854775807 -1"},
		{begin(1, raft()), "4 begin refused 7 0 0"},
		{pass(1), "5 pass refused 7 0 0"},
		{look(1, vain(0)), "6 look refused 7 0 0"},
		{suspend(1), "7 suspend refused 7 0 0"},
		{send(api.Unit{}, 0), "8 send refused 2 0 0"},
		{send(heron(), 0, make([]api.Way, 31)...), "9 send refused 3 0 0"},
		{send(heron(), 0, way(1000, 0, 0)), "10 send refused 9 0 1"},
		{recall(1), "11 recall refused 7 0 0"},
		{api.Matter{Kind: 10}, "12 odd refused 2 0 0"},
		{api.Matter{Kind: -1}, "13 odd refused 2 0 0"},
		{api.Matter{Kind: big, N: 4}, "14 odd refused 2 0 0"},
	} {
		c.Do(x.matter)
		if line, e := c.Line(c.Count() - 1); line != x.want || e != api.OK {
			t.Errorf("the line is %q, error %d; not %q", line, e, x.want)
		}
	}
}
