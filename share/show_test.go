package share_test

import (
	"slices"
	"strconv"
	"testing"

	"cresset/api"
	"cresset/share"
)

// stated returns a statement of a thing.
func stated(centre, number int, key, value string, time, trust int) api.Said {
	return api.Said{Centre: centre, Number: number, Key: key, Value: value, Time: time, Trust: trust}
}

// The chapter's examples, and the eighth one of DOC.md.
func TestExamples(t *testing.T) {
	a, b := newPicture(t, 1), newPicture(t, 2)
	seen, lost := stated(1, 1, "raft", "seen", 5, 600), stated(2, 1, "raft", "lost", 9, 500)
	says(t, a, seen)
	says(t, b, lost)
	news, _ := a.Since(b.Known())
	takes(t, b, 1, news...)
	shows(t, b, api.Shown{Said: seen, Others: 1})
	says(t, a, takesBack(1, 2, 1))
	news, _ = a.Since(b.Known())
	takes(t, b, 1, news...)
	shows(t, b, api.Shown{Said: lost})
	showsAt(t, b, vector(1, 1), api.Shown{Said: seen, Others: 1})
	takes(t, b, 1, said(4, 3))
	knows(t, b, 2, 1, 0, 0)
}

// P13.4: what counts most, by the first of the measures that tells two statements apart.
func TestCountsMost(t *testing.T) {
	for _, x := range []struct{ most, less api.Said }{
		{stated(2, 1, "raft", "a", 0, 600), stated(1, 2, "raft", "b", 9, 599)},
		{stated(2, 1, "raft", "a", 0, 1), stated(1, 1, "raft", "b", api.MaxTime, 0)},
		{stated(1, 1, "raft", "a", 0, api.Whole), stated(1, 2, "raft", "b", api.MaxTime, 999)},
		{stated(8, 1, "raft", "a", 6, 600), stated(1, 9, "raft", "b", 5, 600)},
		{stated(1, 1, "raft", "a", api.MaxTime, 0), stated(1, 2, "raft", "b", api.MaxTime-1, 0)},
		{stated(1, 1, "raft", "b", 5, 600), stated(2, 9, "raft", "a", 5, 600)},
		{stated(7, 1, "raft", "b", 5, 600), stated(8, 1, "raft", "a", 5, 600)},
		{stated(1, 2, "raft", "a", 5, 600), stated(1, 1, "raft", "b", 5, 600)},
		{stated(3, 900, "raft", "b", 5, 600), stated(3, 899, "raft", "a", 5, 600)},
	} {
		for _, l := range [][]api.Said{{x.most, x.less}, {x.less, x.most}} {
			p := pictureOf(t, 1, append(missing(l), l...)...)
			shown := slices.DeleteFunc(p.Show(), func(s api.Shown) bool { return s.Said.Key == "other" })
			if !slices.Equal(shown, []api.Shown{{Said: x.most, Others: 1}}) {
				t.Errorf("of %v it shows %v", l, shown)
			}
		}
	}
}

// missing returns the statements without which others are not known; they are of another thing.
func missing(l []api.Said) []api.Said {
	var m []api.Said
	for _, s := range l {
		for number := 1; number < s.Number; number++ {
			if _, ok := find(slices.Concat(l, m), s.Centre, number); !ok {
				m = append(m, stated(s.Centre, number, "other", "x", 0, 0))
			}
		}
	}
	return m
}

// P13.4: the things in order, byte by byte.
func TestKeys(t *testing.T) {
	keys := []string{"a", "a-", "a-b", "a0", longName, "aa", "aaa", "ab", "b", "b-2", "b10", "b2", "ba", "raft", "zz"}
	p := newPicture(t, 1)
	want := make([]api.Shown, len(keys))
	for n := range keys {
		i := (4*n + 7) % len(keys)
		want[i].Said = stated(1, n+1, keys[i], "x", 0, 0)
		says(t, p, want[i].Said)
	}
	shows(t, p, want...)
}

// P13.4: how many other values there are, not how many other statements.
func TestOthers(t *testing.T) {
	p := newPicture(t, 1)
	shows(t, p)
	best := stated(3, 1, "raft", "seen", 5, 700)
	takes(t, p, 1, best)
	shows(t, p, api.Shown{Said: best})
	for number, x := range []struct {
		key, value string
		others     int
	}{
		{"raft", "seen", 0}, {"raft", "lost", 1}, {"raft", "lost", 1}, {"raft", "Seen", 2}, {"raft", "seen ", 3}, {"raft", " seen", 4},
		{"raft", "seen", 4}, {"raft", " ", 5}, {"raft", longValue, 6}, {"raft", "lost", 6},
	} {
		takes(t, p, 2, stated(1, number+1, x.key, x.value, 5, 100), stated(2, number+1, x.key, x.value, 5, 200))
		shows(t, p, api.Shown{Said: best, Others: x.others})
	}
	boat := stated(4, 1, "boat", "here", 1, 1)
	takes(t, p, 2, boat, stated(4, 2, "boat", "lost", 1, 0))
	shows(t, p, api.Shown{Said: boat, Others: 1}, api.Shown{Said: best, Others: 6})
}

// P13.4: what is taken back does not count, and what takes back counts itself.
func TestTakenBack(t *testing.T) {
	first, second, third := stated(1, 1, "raft", "seen", 5, 600), stated(1, 2, "raft", "lost", 5, 500), stated(1, 3, "boat", "here", 5, 100)
	second.Back, third.Back = 1, 2
	p := pictureOf(t, 2, first, second, third)
	showsAt(t, p, vector(1), api.Shown{Said: first})
	showsAt(t, p, vector(2), api.Shown{Said: second})
	shows(t, p, api.Shown{Said: third}) // the first one stays taken back, though what took it back is taken back, too
	takes(t, p, 2, takesBack(1, 4, 3), takesBack(1, 5, 4))
	shows(t, p)
	showsAt(t, p, vector(4))
	showsAt(t, p, vector(3), api.Shown{Said: third})
}

// P13.4: a centre takes back just its own statements.
func TestTakesBackItsOwn(t *testing.T) {
	p := pictureOf(t, 3, said(1, 1), said(2, 1), takesBack(2, 2, 1))
	shows(t, p, api.Shown{Said: said(1, 1)})
	takes(t, p, 2, stated(1, 2, "raft", "lost", 5, 1), takesBack(1, 3, 2))
	shows(t, p, api.Shown{Said: said(1, 1)})
	takes(t, p, 1, takesBack(1, 4, 1))
	shows(t, p)
}

// P13.4: statements above the vector neither count, nor take back; those that came too early do so when they are known.
func TestAt(t *testing.T) {
	lost := stated(2, 1, "raft", "lost", 9, 900)
	p := pictureOf(t, 1, said(1, 1), takesBack(1, 3, 1), lost, said(2, 3))
	shows(t, p, api.Shown{Said: lost, Others: 1})
	showsAt(t, p, vector())
	showsAt(t, p, vector(1), api.Shown{Said: said(1, 1)})
	showsAt(t, p, vector(0, 1), api.Shown{Said: lost})
	takes(t, p, 1, stated(1, 2, "a", "x", 0, 0))
	a := api.Shown{Said: stated(1, 2, "a", "x", 0, 0)}
	shows(t, p, a, api.Shown{Said: lost})
	showsAt(t, p, vector(3), a)
	showsAt(t, p, vector(2), a, api.Shown{Said: said(1, 1)})
	showsAt(t, p, vector(2, 1), a, api.Shown{Said: lost, Others: 1})
}

// P13.4
func TestAtRefuses(t *testing.T) {
	p := pictureOf(t, 1, said(1, 1), said(1, 2), said(4, 1), said(4, 3))
	before := viewOf(t, p)
	for _, v := range wrongVectors() {
		if l, e := p.At(v); l != nil || e != api.ErrArg {
			t.Errorf("At %v: %v, error %d", v, l, e)
		}
	}
	for _, v := range [][]int{vector(3), vector(0, 1), vector(2, 0, 0, 2), vector(0, 0, 0, 3), vector(1, 0, 0, 0, 0, 0, 0, 1), vector(1000)} {
		if l, e := p.At(v); l != nil || e != api.ErrNone {
			t.Errorf("At %v: %v, error %d", v, l, e)
		}
		v[7] = 1001 // then it is no vector
		if l, e := p.At(v); l != nil || e != api.ErrArg {
			t.Errorf("At %v: %v, error %d", v, l, e)
		}
	}
	isView(t, p, before)
}

// P13.4: as much as a picture can have.
func TestShowFull(t *testing.T) {
	things, values := newPicture(t, 1), newPicture(t, 1)
	for n := 1; n <= api.MaxSaid; n++ {
		says(t, things, stated(1, n, "k"+strconv.Itoa(n), "x", 0, 0))
		says(t, values, stated(1, n, "k", strconv.Itoa(n), 0, 0))
	}
	if l := things.Show(); len(l) != api.MaxSaid {
		t.Errorf("%d things are shown", len(l))
	}
	shows(t, values, api.Shown{Said: stated(1, api.MaxSaid, "k", "1000", 0, 0), Others: api.MaxSaid - 1})
}

// R4: results share no memory with anything.
func TestMemory(t *testing.T) {
	p := newPicture(t, 1)
	l := []api.Said{said(1, 1), stated(2, 1, "boat", "here", 1, 1), said(1, 2)}
	takes(t, p, 3, l...)
	before := viewOf(t, p)
	clear(l)
	v := vector(1)
	since, _ := p.Since(v)
	at, _ := p.At(v)
	when, _ := p.When(2)
	show, known := p.Show(), p.Known()
	joined, _ := share.Join(v, v)
	clear(since[:cap(since)])
	clear(at[:cap(at)])
	clear(show[:cap(show)])
	clear(when[:cap(when)])
	clear(known[:cap(known)])
	joined[0] = 7
	if v[0] != 1 {
		t.Errorf("the argument became %v", v)
	}
	isView(t, p, before)
}
