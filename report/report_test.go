package report_test

import (
	"math/rand"
	"slices"
	"strings"
	"testing"

	"cresset/api"
	"cresset/report"
)

// P2.1, P2.2
func TestCheckReport(t *testing.T) {
	for _, c := range []struct {
		what   string
		change func(r *api.Report)
		want   bool
	}{
		{"a call", func(r *api.Report) {}, true},
		{"a flare", func(r *api.Report) { r.Kind = api.Flare }, true},
		{"a beacon about nobody", func(r *api.Report) { r.Kind = api.Beacon }, false},
		{"a missing one about nobody", func(r *api.Report) { r.Kind = api.Missing }, false},
		{"a beacon", func(r *api.Report) { r.Kind, r.About = api.Beacon, "b1" }, true},
		{"a missing one", func(r *api.Report) { r.Kind, r.About = api.Missing, "tern" }, true},
		{"a call about one", func(r *api.Report) { r.About = "tern" }, true},
		{"a flare about one", func(r *api.Report) { r.Kind, r.About = api.Flare, "tern" }, true},
		{"kind 0", func(r *api.Report) { r.Kind = 0 }, false},
		{"kind 5", func(r *api.Report) { r.Kind, r.About = 5, "tern" }, false},
		{"kind -1", func(r *api.Report) { r.Kind = -1 }, false},
		{"a huge kind", func(r *api.Report) { r.Kind = big }, false},
		{"time 0", func(r *api.Report) { r.Time = 0 }, true},
		{"time -1", func(r *api.Report) { r.Time = -1 }, false},
		{"the last time", func(r *api.Report) { r.Time = api.MaxTime }, true},
		{"behind the last time", func(r *api.Report) { r.Time = api.MaxTime + 1 }, false},
		{"no source", func(r *api.Report) { r.Source = "" }, false},
		{"the longest source", func(r *api.Report) { r.Source = longName }, true},
		{"the longest about", func(r *api.Report) { r.About = longName }, true},
		{"a source of a letter", func(r *api.Report) { r.Source = "z" }, true},
		{"a source of all sorts", func(r *api.Report) { r.Source = "a-0z9--" }, true},
		{"no place", func(r *api.Report) { r.Where = nil }, false},
		{"a wrong place", func(r *api.Report) { r.Where = spots(place+1, 0) }, false},
		{"a line", func(r *api.Report) { r.Where = spots(0, 0, place, place) }, true},
		{"a turned area", func(r *api.Report) { slices.Reverse(r.Where) }, false},
		{"souls not known", func(r *api.Report) { r.Souls = -1 }, true},
		{"souls -2", func(r *api.Report) { r.Souls = -2 }, false},
		{"souls 0", func(r *api.Report) { r.Souls = 0 }, true},
		{"most souls", func(r *api.Report) { r.Souls = api.MaxSouls }, true},
		{"too many souls", func(r *api.Report) { r.Souls = api.MaxSouls + 1 }, false},
		{"trust 0", func(r *api.Report) { r.Trust = 0 }, true},
		{"trust -1", func(r *api.Report) { r.Trust = -1 }, false},
		{"most trust", func(r *api.Report) { r.Trust = api.Whole }, true},
		{"too much trust", func(r *api.Report) { r.Trust = api.Whole + 1 }, false},
	} {
		checkReport(t, c.what, changed(c.change), c.want)
	}
	for _, name := range wrongNames {
		checkReport(t, "a source", changed(func(r *api.Report) { r.Source = name }), false)
		checkReport(t, "an about", changed(func(r *api.Report) { r.About = name }), false)
	}
	checkReport(t, "the zero value", api.Report{}, false)
}

// checkReport checks whether a report is valid, and that just valid ones have a line.
func checkReport(t *testing.T, what string, r api.Report, want bool) {
	t.Helper()
	if got := report.CheckReport(r); got != want {
		t.Errorf("%s: %v is %v", what, r, got)
	}
	if line := report.Print(r); (line != "") != want {
		t.Errorf("%s: %v is printed as %q", what, r, line)
	}
}

// P2.5
func TestRead(t *testing.T) {
	for _, c := range []struct {
		s      api.Signal
		time   int
		source string
		about  string
		where  []api.Spot
		trust  int
	}{
		{api.Signal{}, 0, "sat", "b0", spots(0, 0, 1024, 0, 1024, 1024, 0, 1024), 500},
		{api.Signal{Owner: 1, X: 2, Y: 3, By: 1}, 60, "sat-1", "b1", spots(2048, 3072, 3072, 3072, 3072, 4096, 2048, 4096), 700},
		{api.Signal{Owner: 1<<28 - 1, X: -1, Y: -2, By: 2, Flags: 15}, api.MaxTime, longName, "b268435455", spots(-1024, -2048, 0, -2048, 0, -1024, -1024, -1024), 300},
		{api.Signal{Owner: 1000, X: -8192, Y: 8191, By: 15}, 1, "a", "b1000", spots(-8388608, 8387584, -8387584, 8387584, -8387584, 8388608, -8388608, 8388608), 300},
		{api.Signal{X: 8191, Y: -8192}, 1, "a", "b0", spots(8387584, -8388608, 8388608, -8388608, 8388608, -8387584, 8387584, -8387584), 500},
	} {
		want := api.Report{Kind: api.Beacon, Time: c.time, Source: c.source, About: c.about, Where: c.where, Souls: -1, Trust: c.trust}
		if r, e := report.Read(c.s, c.time, c.source); !same(r, want) || e != api.OK {
			t.Errorf("%v is %v, error %d; want %v", c.s, r, e, want)
		}
	}
}

// P2.5
func TestReadOfWrong(t *testing.T) {
	check := func(s api.Signal, time int, source string, want api.Errno) {
		t.Helper()
		if r, e := report.Read(s, time, source); !isZero(r) || e != want {
			t.Errorf("%v at %d by %q: %v, error %d; want error %d", s, time, source, r, e, want)
		}
	}
	for _, s := range wrongSignals() {
		check(s, 0, "a", api.ErrRange)
		check(s, -1, "", api.ErrRange) // ahead of ErrArg
	}
	for _, time := range []int{-1, api.MaxTime + 1, big, small} {
		check(api.Signal{}, time, "a", api.ErrArg)
	}
	check(api.Signal{}, 0, "", api.ErrArg)
	for _, name := range wrongNames {
		check(api.Signal{}, 0, name, api.ErrArg)
	}
}

// P2.10
func TestReadHasTheSquare(t *testing.T) {
	random := rand.New(rand.NewSource(3))
	for range 1000 {
		s := someSignal(random)
		r, e := report.Read(s, random.Intn(api.MaxTime+1), someName(random))
		if e != api.OK || !report.CheckReport(r) {
			t.Fatalf("%v is %v, error %d", s, r, e)
		}
		for _, d := range []api.Spot{{X: 0, Y: 0}, {X: 1024, Y: 0}, {X: 1024, Y: 1024}, {X: 0, Y: 1024}, {X: random.Intn(1025), Y: random.Intn(1025)}} {
			if !report.Has(r.Where, api.Spot{X: 1024*s.X + d.X, Y: 1024*s.Y + d.Y}) {
				t.Fatalf("%v does not have %v", r.Where, d)
			}
		}
		for _, d := range []api.Spot{{X: -1, Y: 5}, {X: 1025, Y: 5}, {X: 5, Y: -1}, {X: 5, Y: 1025}} {
			if report.Has(r.Where, api.Spot{X: 1024*s.X + d.X, Y: 1024*s.Y + d.Y}) {
				t.Fatalf("%v has %v", r.Where, d)
			}
		}
	}
}

// said is a source and its trust, for a report.
type said struct {
	source string
	trust  int
}

// reports returns valid reports.
func reports(l ...said) []api.Report {
	var all []api.Report
	for _, s := range l {
		all = append(all, changed(func(r *api.Report) { r.Source, r.Trust = s.source, s.trust }))
	}
	return all
}

// P2.7
func TestDoubt(t *testing.T) {
	wrong := changed(func(r *api.Report) { r.Trust = -1 })
	six := reports(said{"a", 0}, said{"b", 1}, said{"c", 2}, said{"d", 3}, said{"e", 4}, said{"f", 5})
	seven := append(slices.Clone(six), reports(said{"g", 1000})...)
	for _, c := range []struct {
		what      string
		l         []api.Report
		left, all int
		e         api.Errno
	}{
		{"nothing", nil, 0, 0, api.ErrNone},
		{"an empty list", []api.Report{}, 0, 0, api.ErrNone},
		{"one", reports(said{"a", 700}), 300, 1000, api.OK},
		{"one without trust", reports(said{"a", 0}), 1000, 1000, api.OK},
		{"one without doubt", reports(said{"a", 1000}), 0, 1000, api.OK},
		{"the example", reports(said{"a", 500}, said{"a", 600}, said{"b", 900}), 40000, 1000000, api.OK},
		{"the greatest first", reports(said{"a", 600}, said{"b", 900}, said{"a", 500}), 40000, 1000000, api.OK},
		{"the same twice", reports(said{"a", 600}, said{"a", 600}), 400, 1000, api.OK},
		{"without trust, and more", reports(said{"a", 0}, said{"a", 0}, said{"b", 0}), 1000000, 1000000, api.OK},
		{"one without doubt, and more", reports(said{"a", 1000}, said{"b", 3}), 0, 1000000, api.OK},
		{"six", six, 1000 * 999 * 998 * 997 * 996 * 995, 1000000000000000000, api.OK},
		{"six, some twice", slices.Concat(six, six, six), 1000 * 999 * 998 * 997 * 996 * 995, 1000000000000000000, api.OK},
		{"seven", seven, 0, 0, api.ErrLong},
		{"seven and a wrong one", append(slices.Clone(seven), wrong), 0, 0, api.ErrArg},
		{"a wrong one", []api.Report{wrong}, 0, 0, api.ErrArg},
		{"a wrong one last", append(reports(said{"a", 5}), wrong), 0, 0, api.ErrArg},
		{"a wrong one first", append([]api.Report{wrong}, reports(said{"a", 5})...), 0, 0, api.ErrArg},
		{"the zero value", make([]api.Report, 1), 0, 0, api.ErrArg},
		{"many of one", slices.Repeat(reports(said{"a", 5}), 10000), 995, 1000, api.OK},
	} {
		if left, all, e := report.Doubt(c.l); left != c.left || all != c.all || e != c.e {
			t.Errorf("%s: %d of %d, error %d; want %d of %d, error %d", c.what, left, all, e, c.left, c.all, c.e)
		}
	}
}

// P2.7: the sources are told apart by their names alone.
func TestDoubtOfKinds(t *testing.T) {
	beacon, _ := report.Read(api.Signal{Owner: 1}, 5, "sat")
	l := []api.Report{beacon, changed(func(r *api.Report) { r.Source = "sat" })}
	if left, all, e := report.Doubt(l); left != 300 || all != 1000 || e != api.OK {
		t.Errorf("%d of %d, error %d", left, all, e)
	}
}

// P2.10: with one more report the doubt is not more.
func TestDoubtOfOneMore(t *testing.T) {
	random := rand.New(rand.NewSource(4))
	for range 2000 {
		var l []api.Report
		before, beforeAll := 1, 1
		for range 1 + random.Intn(20) {
			l = append(l, reports(said{"abcdef"[random.Intn(6):][:1], random.Intn(api.Whole + 1)})...)
			left, all, e := report.Doubt(l)
			if e != api.OK {
				t.Fatalf("error %d", e)
			}
			if all == beforeAll && left > before || all == 1000*beforeAll && left > 1000*before || all != beforeAll && all != 1000*beforeAll {
				t.Fatalf("%d of %d, and %d of %d before", left, all, before, beforeAll)
			}
			before, beforeAll = left, all
		}
	}
}

// R4: nothing given is changed, and what is returned is new.
func TestMemory(t *testing.T) {
	l := reports(said{"b", 900}, said{"a", 500}, said{"a", 600})
	lines := func() string {
		var all []string
		for _, r := range l {
			all = append(all, report.Print(r))
		}
		return strings.Join(all, "\n")
	}
	before := lines()
	report.Doubt(l)
	for _, r := range l {
		report.CheckReport(r)
		report.CheckArea(r.Where)
		report.Has(r.Where, api.Spot{X: 1, Y: 1})
	}
	if lines() != before {
		t.Error("the reports have changed")
	}
	for what, ask := range map[string]func() []api.Spot{
		"Parse":   func() []api.Spot { r, _, _ := report.Parse(report.Print(call())); return r.Where },
		"Read":    func() []api.Spot { r, _ := report.Read(api.Signal{}, 0, "a"); return r.Where },
		"Bearing": func() []api.Spot { l, _ := report.Bearing(api.Spot{}, api.Spot{Y: 1}, api.Spot{X: 1}, 5); return l },
	} {
		first, second := ask(), ask()
		kept := slices.Clone(second)
		clear(first)
		if !slices.Equal(second, kept) || !slices.Equal(ask(), kept) {
			t.Errorf("the results of %s share memory", what)
		}
	}
}
