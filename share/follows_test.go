package share_test

import (
	"math/rand"
	"slices"
	"testing"

	"cresset/api"
	"cresset/share"
)

// pair is a picture, and the model that it must be like.
type pair struct {
	picture *share.Picture
	model   *model
}

// someList is statements for Take: most of them valid, some of them contradicting others, some more than once.
func someList(random *rand.Rand) []api.Said {
	var l []api.Said
	for range random.Intn(6) {
		s := someSaid(random, 3, 6)
		if random.Intn(2) == 0 { // the same for all, so that it does not contradict
			s = someSaid(rand.New(rand.NewSource(int64(8*s.Centre+s.Number))), 3, 6)
		}
		if random.Intn(40) == 0 {
			s = oneOf(random, wrongSaids()...)
		}
		l = append(l, s)
		if random.Intn(4) == 0 {
			l = append(l, oneOf(random, l...))
		}
	}
	return l
}

// someVector is near to what may be known, and sometimes no vector.
func someVector(random *rand.Rand, known []int) []int {
	if random.Intn(12) == 0 {
		return oneOf(random, wrongVectors()...)
	}
	v := slices.Clone(known)
	for range random.Intn(4) {
		i := random.Intn(len(v))
		v[i] = max(0, v[i]+random.Intn(5)-3)
	}
	return v
}

// do does something with both a picture and its model, and checks that they return the same; it returns with which error.
func (p pair) do(t *testing.T, random *rand.Rand) api.Errno {
	t.Helper()
	if random.Intn(2) == 0 {
		w := someWords(random, 1+random.Intn(4))
		got, e := p.picture.Say(w.key, w.value, w.time, w.trust, w.back)
		if want, wantError := p.model.say(w); got != want || e != wantError {
			t.Fatalf("Say of %v: %v, error %d; not %v, error %d", w, got, e, want, wantError)
		}
		return e
	}
	l := someList(random)
	kept := slices.Clone(l)
	got, e := p.picture.Take(l)
	if want, wantError := p.model.take(kept); got != want || e != wantError || !slices.Equal(l, kept) {
		t.Fatalf("Take of %v: %d, error %d; not %d, error %d", kept, got, e, want, wantError)
	}
	return e
}

// ask asks both a picture and its model at a vector.
func (p pair) ask(t *testing.T, v []int) {
	t.Helper()
	since, e := p.picture.Since(v)
	if want, wantError := p.model.since(v); !slices.Equal(since, want) || e != wantError {
		t.Fatalf("Since %v: %v, error %d; not %v, error %d", v, since, e, want, wantError)
	}
	at, e := p.picture.At(v)
	if want, wantError := p.model.at(v); !slices.Equal(at, want) || e != wantError {
		t.Fatalf("At %v: %v, error %d; not %v, error %d", v, at, e, want, wantError)
	}
}

// P13.1 to P13.5, P2: two pictures, of which now one and now the other one is used, tell at each time what the document says.
func TestPicturesOfSome(t *testing.T) {
	random := rand.New(rand.NewSource(131))
	errors := map[api.Errno]int{}
	for range 250 {
		pairs := []pair{}
		for range 2 {
			centre := 1 + random.Intn(4)
			pairs = append(pairs, pair{newPicture(t, centre), &model{centre: centre}})
		}
		for range 25 {
			p := pairs[random.Intn(2)]
			errors[p.do(t, random)]++
			for _, q := range pairs {
				isView(t, q.picture, q.model.view())
			}
			p.ask(t, someVector(random, p.picture.Known()))
		}
	}
	for _, e := range []api.Errno{api.OK, api.ErrArg, api.ErrThere} {
		if errors[e] < 300 {
			t.Errorf("the error %d was returned %d times", e, errors[e])
		}
	}
}

// sea is pictures of different centres, and all that they said, in the order of their numbers.
type sea struct {
	pictures []*share.Picture
	said     [][]api.Said
}

func newSea(t *testing.T, centres int) *sea {
	s := &sea{said: make([][]api.Said, centres)}
	for centre := 1; centre <= centres; centre++ {
		s.pictures = append(s.pictures, newPicture(t, centre))
	}
	return s
}

// step lets one of the centres say something, or take some of what was said: late, more than once, and in any order.
func (s *sea) step(t *testing.T, random *rand.Rand) {
	t.Helper()
	i := random.Intn(len(s.pictures))
	if random.Intn(3) == 0 {
		w := someWords(random, len(s.said[i])+1)
		said, e := s.pictures[i].Say(w.key, w.value, w.time, w.trust, w.back)
		if e != api.OK || said.Centre != i+1 || said.Number != len(s.said[i])+1 {
			t.Fatalf("Say of %v: %v, error %d", w, said, e)
		}
		s.said[i] = append(s.said[i], said)
		return
	}
	all := slices.Concat(s.said...)
	var l []api.Said
	for range min(len(all), random.Intn(5)) {
		l = append(l, oneOf(random, all...))
	}
	if _, e := s.pictures[i].Take(l); e != api.OK {
		t.Fatalf("Take of %v: error %d", l, e)
	}
}

// someSea is a sea of centres after some steps.
func someSea(t *testing.T, random *rand.Rand) *sea {
	t.Helper()
	s := newSea(t, 2+random.Intn(3))
	for range random.Intn(60) {
		s.step(t, random)
	}
	return s
}

// least returns the vector of the lesser numbers.
func least(a, b []int) []int {
	v := slices.Clone(a)
	for i, n := range b {
		v[i] = min(v[i], n)
	}
	return v
}

// P13.6: at each vector that two know, they show the same; and behind all exchanges they know the same.
func TestSamePicture(t *testing.T) {
	random := rand.New(rand.NewSource(136))
	same := 0
	for range 300 {
		s := someSea(t, random)
		for _, p := range s.pictures {
			q := oneOf(random, s.pictures...)
			if slices.Equal(p.Known(), q.Known()) && !slices.Equal(p.Show(), q.Show()) {
				t.Fatalf("%v and %v show %v and %v", p.Known(), q.Known(), p.Show(), q.Show())
			}
			both := least(p.Known(), q.Known())
			shown, e := p.At(both)
			if e != api.OK {
				t.Fatalf("At %v: error %d", both, e)
			}
			showsAt(t, q, both, shown...)
		}
		for _, p := range s.pictures {
			all := slices.Concat(s.said...)
			random.Shuffle(len(all), func(i, k int) { all[i], all[k] = all[k], all[i] })
			for _, said := range append(all, all...) {
				if _, e := p.Take([]api.Said{said}); e != api.OK {
					t.Fatalf("Take of %v: error %d", said, e)
				}
			}
			if !slices.Equal(p.Known(), s.pictures[0].Known()) {
				t.Fatalf("known is %v and %v", p.Known(), s.pictures[0].Known())
			}
			shows(t, p, s.pictures[0].Show()...)
			same += len(p.Show())
		}
	}
	if same < 1000 {
		t.Errorf("%d things were shown", same)
	}
}

// P13.7
func TestWhatIsNeeded(t *testing.T) {
	random := rand.New(rand.NewSource(137))
	fresh, more := 0, 0
	for range 1500 {
		s := someSea(t, random)
		p, q := oneOf(random, s.pictures...), oneOf(random, s.pictures...)
		want, e := share.Join(p.Known(), q.Known())
		news, of := q.Since(p.Known())
		if e != api.OK || of != api.OK {
			t.Fatalf("Join: error %d; Since: error %d", e, of)
		}
		n, e := p.Take(news)
		if e != api.OK || !slices.Equal(least(p.Known(), want), want) {
			t.Fatalf("after %v, error %d: known is %v, and not %v at least", news, e, p.Known(), want)
		}
		fresh += n
		if !slices.Equal(p.Known(), want) {
			more++
		}
		before := viewOf(t, p)
		takes(t, p, 0, news...)
		takes(t, p, 0, append(news, news...)...)
		isView(t, p, before)
	}
	if fresh < 1000 || more < 30 {
		t.Errorf("%d were fresh, and %d times more was known", fresh, more)
	}
}

// P13.8
func TestWhatWasSeen(t *testing.T) {
	random := rand.New(rand.NewSource(138))
	for range 200 {
		s := newSea(t, 3)
		p := s.pictures[0]
		var known, when [][]int
		var shown [][]api.Shown
		for range 60 {
			s.step(t, random)
			v := p.Known()
			for i := range v {
				v[i] -= random.Intn(min(v[i], 2) + 1)
			}
			l, e := p.At(v)
			if e != api.OK {
				t.Fatalf("At %v: error %d", v, e)
			}
			known, shown = append(known, v), append(shown, l)
			for i, v := range known {
				showsAt(t, p, v, shown[i]...)
			}
			now := viewOf(t, p).when
			if !slices.EqualFunc(now[:len(when)], when, slices.Equal[[]int]) {
				t.Fatalf("when were %v, and are %v", when, now)
			}
			when = now
		}
		for i, v := range when[1:] {
			if !slices.Equal(least(v, when[i]), when[i]) {
				t.Fatalf("from %v to %v a number falls", when[i], v)
			}
		}
	}
}

// P13.9: by what the centres said, not by what the picture says of it.
func TestShownWasStated(t *testing.T) {
	random := rand.New(rand.NewSource(139))
	agreed, disputed := 0, 0
	for range 300 {
		s := someSea(t, random)
		for _, p := range s.pictures {
			count := counting(slices.Concat(s.said...), p.Known())
			for _, shown := range p.Show() {
				if !slices.Contains(count, shown.Said) {
					t.Fatalf("%v was not stated, or taken back", shown)
				}
				agree := !slices.ContainsFunc(count, func(s api.Said) bool { return s.Key == shown.Said.Key && s.Value != shown.Said.Value })
				if agree != (shown.Others == 0) {
					t.Fatalf("%v is shown, of %v", shown, count)
				}
				if agree {
					agreed++
				} else {
					disputed++
				}
			}
		}
	}
	if agreed < 300 || disputed < 300 {
		t.Errorf("%d things were agreed on, %d were not", agreed, disputed)
	}
}

// isNothing checks that there is no list with an error.
func isNothing[T any](t *testing.T, l []T, e api.Errno) {
	t.Helper()
	if e != api.OK && len(l) != 0 {
		t.Fatalf("with the error %d: %v", e, l)
	}
}

// P1: nothing panics, and all ends, whatever the arguments are.
func TestAnyArguments(t *testing.T) {
	random := rand.New(rand.NewSource(130))
	n := func() int {
		return oneOf(random, small, small+1, -1, 0, 1, 2, 3, 7, 8, 9, 999, 1000, 1001, api.MaxTime, api.MaxTime+1, big-1, big)
	}
	text := func() string { return oneOf(random, "", "a", "A b", "\xff\x00", longName, longValue, longValue+"x") }
	p := pictureOf(t, 1, said(1, 1), said(2, 2), said(3, 1000))
	for range 30000 {
		s := api.Said{Centre: n(), Number: n(), Key: text(), Value: text(), Time: n(), Trust: n(), Back: n()}
		if share.CheckSaid(s) != modelValid(s) {
			t.Fatalf("%v is valid: %t", s, share.CheckSaid(s))
		}
		if q, e := share.New(n()); (q == nil) != (e != api.OK) {
			t.Fatalf("New: %v, error %d", q, e)
		}
		if got, e := p.Say(text(), text(), n(), n(), n()); (got == api.Said{}) != (e != api.OK) {
			t.Fatalf("Say: %v, error %d", got, e)
		}
		if fresh, e := p.Take([]api.Said{s, {Centre: n(), Number: n(), Back: n()}}); e != api.OK && fresh != 0 {
			t.Fatalf("Take: %d, error %d", fresh, e)
		}
		v := make([]int, 7+random.Intn(3))
		for i := range v {
			v[i] = oneOf(random, 0, 0, 0, 1, n())
		}
		since, e := p.Since(v)
		isNothing(t, since, e)
		at, e := p.At(v)
		isNothing(t, at, e)
		when, e := p.When(n())
		isNothing(t, when, e)
		joined, e := share.Join(v, vector(1, 2))
		isNothing(t, joined, e)
	}
}
