package share_test

import (
	"slices"
	"testing"

	"cresset/api"
	"cresset/share"
)

// P13.1
func TestNew(t *testing.T) {
	for centre := 1; centre <= api.MaxCentres; centre++ {
		p := newPicture(t, centre)
		isView(t, p, view{known: vector(), when: [][]int{vector()}})
		says(t, p, said(centre, 1))
	}
	for _, centre := range outside(1, api.MaxCentres) {
		if p, e := share.New(centre); p != nil || e != api.ErrRange {
			t.Errorf("a picture of %d: %v, error %d", centre, p, e)
		}
	}
}

// P13.1: an object that is nil, or that no call made.
func TestNil(t *testing.T) {
	there := pictureOf(t, 1, sequence(1, 1, 5)...)
	copied := *there
	for _, p := range []*share.Picture{nil, {}, new(share.Picture), &copied} {
		for _, back := range []int{0, -1, big} {
			if s, e := p.Say("raft", "seen", 5, 600, back); s != (api.Said{}) || e != api.ErrNil {
				t.Errorf("Say: %v, error %d", s, e)
			}
		}
		for _, l := range [][]api.Said{nil, sequence(1, 1, 6), wrongSaids(), {said(1, 1), takesBack(1, 1, 1)}} {
			if n, e := p.Take(l); n != 0 || e != api.ErrNil {
				t.Errorf("Take: %d, error %d", n, e)
			}
		}
		for _, v := range append(wrongVectors(), vector(), vector(1), vector(6)) {
			if l, e := p.Since(v); l != nil || e != api.ErrNil {
				t.Errorf("Since: %v, error %d", l, e)
			}
			if l, e := p.At(v); l != nil || e != api.ErrNil {
				t.Errorf("At: %v, error %d", l, e)
			}
		}
		for _, n := range []int{0, 1, -1, small, big} {
			if v, e := p.When(n); v != nil || e != api.ErrNil {
				t.Errorf("When: %v, error %d", v, e)
			}
		}
		if v, l, n := p.Known(), p.Show(), p.Arrived(); v != nil || l != nil || n != 0 {
			t.Errorf("%v, %v and %d", v, l, n)
		}
	}
	knows(t, there, 5)
}

// P13.1: own statements are numbered one by one, whatever they take back.
func TestSay(t *testing.T) {
	p := newPicture(t, 3)
	for i, s := range []api.Said{
		{Key: "raft", Value: "seen", Time: 5, Trust: 600},
		{Key: "raft", Value: "seen", Time: 5, Trust: 600}, // once more is another statement
		{Key: longName, Value: longValue, Time: api.MaxTime, Trust: api.Whole, Back: 2},
		{Key: "a", Value: " "},
		{Back: 4},
		{Back: 4},
		{Key: "b", Value: "x", Back: 6},
	} {
		s.Centre, s.Number = 3, i+1
		says(t, p, s)
		knows(t, p, 0, 0, i+1)
		has(t, p, vector(0, 0, i), s)
		if n := p.Arrived(); n != i+1 {
			t.Errorf("%d have arrived, not %d", n, i+1)
		}
	}
}

// P13.1: what is refused changes nothing, and takes no number.
func TestSayRefuses(t *testing.T) {
	p := pictureOf(t, 1, sequence(1, 1, 2)...)
	before := viewOf(t, p)
	for _, w := range []words{
		{"", "", 0, 0, 0}, {"", "", 0, 0, 3}, {"", "", 0, 0, -1}, {"", "", 0, 0, big}, {"", "", 0, 0, small},
		{"", "seen", 0, 0, 1}, {"", "", 1, 0, 1}, {"", "", 0, 1, 1}, {"raft", "", 5, 600, 1}, {"raft", "", 0, 0, 1},
		{"Raft", "seen", 5, 600, 0}, {longName + "a", "seen", 5, 600, 0}, {"raft", longValue + "x", 5, 600, 0}, {"raft", "a\n", 5, 600, 0},
		{"raft", "seen", -1, 600, 0}, {"raft", "seen", api.MaxTime + 1, 600, 0}, {"raft", "seen", 5, -1, 0}, {"raft", "seen", 5, api.Whole + 1, 0},
		{"raft", "seen", 5, 600, -1}, {"raft", "seen", 5, 600, 3}, {"raft", "seen", 5, 600, 4}, {"raft", "seen", 5, 600, big},
	} {
		if s, e := p.Say(w.key, w.value, w.time, w.trust, w.back); s != (api.Said{}) || e != api.ErrArg {
			t.Errorf("Say of %v: %v, error %d", w, s, e)
		}
		isView(t, p, before)
	}
	says(t, p, said(1, 3))
}

// P13.1: a picture that has MaxSaid statements says no more, right or wrong; it does not matter whose they are.
func TestSayFull(t *testing.T) {
	own := newPicture(t, 2)
	for n := 1; n <= api.MaxSaid; n++ {
		says(t, own, said(2, n))
	}
	early := pictureOf(t, 2, sequence(1, 2, 400)...)
	takes(t, early, 600, sequence(2, 401, 1000)...)
	says(t, early, said(2, 1))
	for _, p := range []*share.Picture{own, early, pictureOf(t, 2, sequence(8, 1, 1000)...)} {
		before := viewOf(t, p)
		for _, value := range []string{"seen", "", "\n"} {
			if s, e := p.Say("raft", value, 5, 600, 0); s != (api.Said{}) || e != api.ErrFull {
				t.Errorf("Say: %v, error %d", s, e)
			}
		}
		isView(t, p, before)
	}
	knows(t, early, 0, 1)
	for _, s := range []api.Said{said(2, 1000), takesBack(2, 1000, 999)} {
		p := pictureOf(t, 2, sequence(2, 1, 999)...)
		says(t, p, s)
		knows(t, p, 0, 1000)
	}
}

// P13.1: own statements may have come from others, even too early; the next number is behind what is known.
func TestSayBehindEarlyOnes(t *testing.T) {
	p := pictureOf(t, 1, said(1, 2), said(1, 3), said(1, 5), said(2, 1))
	knows(t, p, 0, 1)
	if s, e := p.Say("raft", "seen", 5, 600, 1); s != (api.Said{}) || e != api.ErrArg {
		t.Errorf("the statement 1 takes back itself: %v, error %d", s, e)
	}
	says(t, p, said(1, 1))
	knows(t, p, 3, 1)
	says(t, p, takesBack(1, 4, 2))
	knows(t, p, 5, 1)
	says(t, p, said(1, 6))
	knows(t, p, 6, 1)
}

// P13.5
func TestArrivedAndWhen(t *testing.T) {
	p := newPicture(t, 2)
	whens := [][]int{vector()}
	check := func() {
		t.Helper()
		if n := p.Arrived(); n != len(whens)-1 {
			t.Fatalf("%d have arrived, not %d", n, len(whens)-1)
		}
		for arrival, want := range whens {
			if v, e := p.When(arrival); !slices.Equal(v, want) || e != api.OK {
				t.Fatalf("after %d arrivals: %v, error %d; not %v", arrival, v, e, want)
			}
		}
		for _, arrival := range outside(0, len(whens)-1) {
			if v, e := p.When(arrival); v != nil || e != api.ErrNone {
				t.Fatalf("after %d arrivals: %v, error %d", arrival, v, e)
			}
		}
	}
	check()
	says(t, p, said(2, 1))
	whens = append(whens, vector(0, 1))
	check()
	takes(t, p, 4, said(4, 3), said(2, 1), said(4, 1), said(4, 3), said(4, 2), said(1, 2))
	whens = append(whens, vector(0, 1), vector(0, 1, 0, 1), vector(0, 1, 0, 3), vector(0, 1, 0, 3))
	check()
	refuses(t, p, api.ErrThere, said(1, 1), takesBack(1, 2, 1))
	takes(t, p, 0, said(4, 1))
	check()
	says(t, p, takesBack(2, 2, 1))
	takes(t, p, 1, said(1, 1))
	whens = append(whens, vector(0, 2, 0, 3), vector(2, 2, 0, 3))
	check()
}

// P13.5: to the last arrival that there can be.
func TestWhenFull(t *testing.T) {
	p := pictureOf(t, 1, sequence(8, 1, 1000)...)
	for arrival := range 1001 {
		if v, e := p.When(arrival); !slices.Equal(v, vector(0, 0, 0, 0, 0, 0, 0, arrival)) || e != api.OK {
			t.Fatalf("after %d arrivals: %v, error %d", arrival, v, e)
		}
	}
	backwards := newPicture(t, 1)
	for n := 1000; n > 0; n-- {
		takes(t, backwards, 1, said(8, n))
	}
	for arrival := range 1001 {
		want := vector()
		if arrival == 1000 {
			want[7] = 1000
		}
		if v, e := backwards.When(arrival); !slices.Equal(v, want) || e != api.OK {
			t.Fatalf("after %d arrivals: %v, error %d", arrival, v, e)
		}
	}
	if v, e := p.When(1001); v != nil || e != api.ErrNone {
		t.Errorf("after 1001 arrivals: %v, error %d", v, e)
	}
}

// P13.5
func TestJoin(t *testing.T) {
	for _, x := range []struct{ a, b, want []int }{
		{vector(), vector(), vector()},
		{vector(1, 5), vector(3, 4), vector(3, 5)},
		{vector(1000, 0, 7), vector(0, 1000, 7), vector(1000, 1000, 7)},
		{[]int{1, 2, 3, 4, 5, 6, 7, 8}, []int{8, 7, 6, 5, 4, 3, 2, 1}, []int{8, 7, 6, 5, 5, 6, 7, 8}},
		{[]int{0, 0, 0, 0, 0, 0, 0, 1000}, vector(1000), []int{1000, 0, 0, 0, 0, 0, 0, 1000}},
	} {
		a, b := slices.Clone(x.a), slices.Clone(x.b)
		for _, l := range [][2][]int{{a, b}, {b, a}} {
			got, e := share.Join(l[0], l[1])
			if !slices.Equal(got, x.want) || e != api.OK {
				t.Errorf("Join of %v: %v, error %d; not %v", l, got, e, x.want)
			}
			clear(got)
		}
		if !slices.Equal(a, x.a) || !slices.Equal(b, x.b) {
			t.Errorf("%v and %v became %v and %v", x.a, x.b, a, b)
		}
	}
	for _, wrong := range wrongVectors() {
		for _, l := range [][2][]int{{wrong, vector()}, {vector(1000), wrong}, {wrong, wrong}, {wrong, nil}} {
			if got, e := share.Join(l[0], l[1]); got != nil || e != api.ErrArg {
				t.Errorf("Join of %v: %v, error %d", l, got, e)
			}
		}
	}
}
