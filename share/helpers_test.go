package share_test

import (
	"math/rand"
	"reflect"
	"slices"
	"strings"
	"testing"

	"cresset/api"
	"cresset/share"
)

const (
	big   = 1<<63 - 1
	small = -1 << 63
)

// The longest name, and the longest value.
var (
	longName  = "a" + strings.Repeat("9", api.MaxName-1)
	longValue = strings.Repeat("~ !", 33) + "x"
)

// outside are numbers that are not from least to most.
func outside(least, most int) []int {
	return []int{least - 1, most + 1, -7, most + 1000, -1 << 32, 1 << 41, small, big}
}

// said returns a statement of a centre that a raft was seen.
func said(centre, number int) api.Said {
	return api.Said{Centre: centre, Number: number, Key: "raft", Value: "seen", Time: 5, Trust: 600}
}

// takesBack returns a statement of a centre that only takes another one back.
func takesBack(centre, number, back int) api.Said {
	return api.Said{Centre: centre, Number: number, Back: back}
}

// sequence returns the statements of a centre with the numbers from low to high.
func sequence(centre, low, high int) []api.Said {
	var l []api.Said
	for n := low; n <= high; n++ {
		l = append(l, said(centre, n))
	}
	return l
}

// vector returns the vector with these numbers, and 0 for all other centres.
func vector(numbers ...int) []int {
	return append(slices.Clone(numbers), make([]int, api.MaxCentres-len(numbers))...)
}

// wrongVectors are no vectors.
func wrongVectors() [][]int {
	l := [][]int{nil, {}, {0}, vector()[:7], make([]int, 9), slices.Repeat([]int{1}, 7), slices.Repeat([]int{1}, 9), make([]int, 1000)}
	for i := range api.MaxCentres {
		for _, n := range outside(0, api.MaxSaid) {
			v := vector()
			v[i] = n
			l = append(l, v)
		}
	}
	return l
}

// wrongSaids are statements that are not valid.
func wrongSaids() []api.Said {
	var l []api.Said
	for _, change := range []func(s *api.Said){
		func(s *api.Said) { s.Centre = 0 },
		func(s *api.Said) { s.Centre = 9 },
		func(s *api.Said) { s.Number = 0 },
		func(s *api.Said) { s.Number = api.MaxSaid + 1 },
		func(s *api.Said) { s.Key = "Raft" },
		func(s *api.Said) { s.Key = "" },
		func(s *api.Said) { s.Value = "" },
		func(s *api.Said) { s.Value = "a\n" },
		func(s *api.Said) { s.Time = -1 },
		func(s *api.Said) { s.Trust = api.Whole + 1 },
		func(s *api.Said) { s.Back = -1 },
		func(s *api.Said) { s.Back = s.Number },
		func(s *api.Said) { *s = api.Said{} },
		func(s *api.Said) { *s = takesBack(1, 3, 0) },
		func(s *api.Said) { *s = takesBack(1, 3, 3) },
	} {
		s := said(1, 3)
		change(&s)
		l = append(l, s)
	}
	return l
}

func newPicture(t *testing.T, centre int) *share.Picture {
	t.Helper()
	p, e := share.New(centre)
	if p == nil || e != api.OK {
		t.Fatalf("a picture of %d: %v, error %d", centre, p, e)
	}
	return p
}

// pictureOf returns a picture of a centre that has taken a list.
func pictureOf(t *testing.T, centre int, l ...api.Said) *share.Picture {
	t.Helper()
	p := newPicture(t, centre)
	if _, e := p.Take(l); e != api.OK {
		t.Fatalf("Take of %v: error %d", l, e)
	}
	return p
}

// says lets a picture state what a statement has, and checks that it is this one.
func says(t *testing.T, p *share.Picture, want api.Said) {
	t.Helper()
	if s, e := p.Say(want.Key, want.Value, want.Time, want.Trust, want.Back); s != want || e != api.OK {
		t.Fatalf("Say: %v, error %d; not %v", s, e, want)
	}
}

// takes checks how many statements of a list are fresh.
func takes(t *testing.T, p *share.Picture, fresh int, l ...api.Said) {
	t.Helper()
	if n, e := p.Take(l); n != fresh || e != api.OK {
		t.Fatalf("Take of %v: %d, error %d; not %d", l, n, e, fresh)
	}
}

// refuses checks with which error a picture refuses a list.
func refuses(t *testing.T, p *share.Picture, want api.Errno, l ...api.Said) {
	t.Helper()
	before := viewOf(t, p)
	if n, e := p.Take(l); n != 0 || e != want {
		t.Fatalf("Take of %v: %d, error %d; not the error %d", l, n, e, want)
	}
	isView(t, p, before)
}

// knows checks what a picture knows.
func knows(t *testing.T, p *share.Picture, want ...int) {
	t.Helper()
	if v := p.Known(); !slices.Equal(v, vector(want...)) {
		t.Fatalf("known is %v, not %v", v, want)
	}
}

// shows checks what a picture shows, now and at what is known.
func shows(t *testing.T, p *share.Picture, want ...api.Shown) {
	t.Helper()
	if l := p.Show(); !slices.Equal(l, want) {
		t.Fatalf("it shows %v, not %v", l, want)
	}
	showsAt(t, p, p.Known(), want...)
}

// showsAt checks what a picture shows at a vector.
func showsAt(t *testing.T, p *share.Picture, at []int, want ...api.Shown) {
	t.Helper()
	if l, e := p.At(at); !slices.Equal(l, want) || e != api.OK {
		t.Fatalf("at %v it shows %v, error %d; not %v", at, l, e, want)
	}
}

// has checks the statements behind a vector.
func has(t *testing.T, p *share.Picture, behind []int, want ...api.Said) {
	t.Helper()
	if l, e := p.Since(behind); !slices.Equal(l, want) || e != api.OK {
		t.Fatalf("since %v: %v, error %d; not %v", behind, l, e, want)
	}
}

// view is what a picture tells.
type view struct {
	known   []int
	since   []api.Said
	show    []api.Shown
	at      []api.Shown
	arrived int
	when    [][]int
}

func viewOf(t *testing.T, p *share.Picture) view {
	t.Helper()
	v := view{known: p.Known(), show: p.Show(), arrived: p.Arrived()}
	var of, at api.Errno
	v.since, of = p.Since(vector())
	v.at, at = p.At(v.known)
	if of != api.OK || at != api.OK {
		t.Fatalf("Since: error %d; At %v: error %d", of, v.known, at)
	}
	for arrival := range v.arrived + 1 {
		when, e := p.When(arrival)
		if e != api.OK {
			t.Fatalf("When of %d: error %d", arrival, e)
		}
		v.when = append(v.when, when)
	}
	return v
}

// equals reports whether two pictures have told the same.
func (v view) equals(w view) bool {
	return slices.Equal(v.known, w.known) && slices.Equal(v.since, w.since) && slices.Equal(v.show, w.show) &&
		slices.Equal(v.at, w.at) && v.arrived == w.arrived && reflect.DeepEqual(v.when, w.when)
}

// isView checks what a picture tells.
func isView(t *testing.T, p *share.Picture, want view) {
	t.Helper()
	if got := viewOf(t, p); !got.equals(want) {
		t.Fatalf("the picture is %v, not %v", got, want)
	}
}

// oneOf returns one of some values.
func oneOf[T any](random *rand.Rand, l ...T) T {
	return l[random.Intn(len(l))]
}

// words is what a statement has besides its centre and its number.
type words struct {
	key, value        string
	time, trust, back int
}

// someWords returns what the statement with a number may have, of few keys and values, so that many contradict each other.
func someWords(random *rand.Rand, number int) words {
	back := 0
	if number > 1 && random.Intn(3) == 0 {
		back = 1 + random.Intn(number-1)
	}
	if back > 0 && random.Intn(2) == 0 {
		return words{back: back}
	}
	return words{
		key: oneOf(random, "raft", "boat", "b-2", "b"), value: oneOf(random, "seen", "lost", "Seen", " "),
		time: random.Intn(3), trust: 499 + random.Intn(3), back: back,
	}
}

// someSaid returns a valid statement of one of some centres.
func someSaid(random *rand.Rand, centres, numbers int) api.Said {
	centre, number := 1+random.Intn(centres), 1+random.Intn(numbers)
	w := someWords(random, number)
	return api.Said{Centre: centre, Number: number, Key: w.key, Value: w.value, Time: w.time, Trust: w.trust, Back: w.back}
}
