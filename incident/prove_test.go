package incident_test

import (
	"testing"

	"cresset/api"
	"cresset/incident"
)

// The reports that proofs are about: each is an incident of its own, at 100 s.
const (
	ofCall = iota
	ofFlare
	ofBeacon
	ofMissing
	ofNobody
	ofMany
	ofOpenCall
	howMany
)

// provable returns a book with reports of all kinds, with a Window of 50 s.
func provable(t *testing.T) *incident.Book {
	t.Helper()
	k := newBook(t, 50, 0)
	reports := [howMany]api.Report{
		ofCall:     callAbout("boat", 100, 0, 0),
		ofFlare:    flare(100, 100, 0, 110, 0, 100, 10),
		ofBeacon:   beacon("b1", 100, 200, 0),
		ofMissing:  overdue("gull", 100, 300, 0),
		ofNobody:   with(0, call(100, 400, 0)),
		ofMany:     with(api.MaxSouls, call(100, 500, 0)),
		ofOpenCall: with(-1, call(100, 600, 0)),
	}
	for n, r := range reports {
		takes(t, k, r, n, api.Nothing)
	}
	return k
}

// at returns a proof in another area.
func at(p api.Proof, area ...int) api.Proof {
	p.Where = spots(area...)
	return p
}

// P5.3: what each kind of a proof fits.
func TestProveFits(t *testing.T) {
	for _, c := range []struct {
		what string
		p    api.Proof
		e    api.Errno
	}{
		{"as many as there were", foundBy(ofCall, 100, 4), api.OK},
		{"one too few", foundBy(ofCall, 100, 3), api.ErrArg},
		{"more", foundBy(ofCall, 100, 5), api.OK},
		{"the most", foundBy(ofCall, 100, api.MaxSouls), api.OK},
		{"one, of nobody knows how many", foundBy(ofFlare, 100, 1), api.OK},
		{"none, of nobody knows how many", foundBy(ofFlare, 100, 0), api.ErrArg},
		{"one of a beacon", foundBy(ofBeacon, 100, 1), api.OK},
		{"none of a beacon", foundBy(ofBeacon, 100, 0), api.ErrArg},
		{"two of the missing", foundBy(ofMissing, 100, 2), api.OK},
		{"one of the missing", foundBy(ofMissing, 100, 1), api.ErrArg},
		{"none of none", foundBy(ofNobody, 100, 0), api.OK},
		{"one of none", foundBy(ofNobody, 100, 1), api.OK},
		{"the most of the most", foundBy(ofMany, 100, api.MaxSouls), api.OK},
		{"almost the most", foundBy(ofMany, 100, api.MaxSouls-1), api.ErrArg},
		{"none of a call by nobody knows how many", foundBy(ofOpenCall, 100, 0), api.ErrArg},
		{"one of a call by nobody knows how many", foundBy(ofOpenCall, 100, 1), api.OK},
		{"found by the source", proof(api.Found, ofCall, 100, "kestrel", 4), api.OK},
		{"found much later, far away", at(foundBy(ofCall, api.MaxTime, 4), place, place), api.OK},

		{"a beacon's owner", proof(api.Owner, ofBeacon, 100, "b1", 0), api.OK},
		{"a beacon's owner, later, far away", at(proof(api.Owner, ofBeacon, api.MaxTime, "b1", 0), -place, 0), api.OK},
		{"a beacon's source", proof(api.Owner, ofBeacon, 100, "sat-1", 0), api.ErrArg},
		{"another beacon's owner", proof(api.Owner, ofBeacon, 100, "b2", 0), api.ErrArg},
		{"an owner of something missing", proof(api.Owner, ofMissing, 100, "gull", 0), api.ErrArg},
		{"an owner of what a call is about", proof(api.Owner, ofCall, 100, "boat", 0), api.ErrArg},
		{"an owner of a flare", proof(api.Owner, ofFlare, 100, "buzzard", 0), api.ErrArg},

		{"arrived", proof(api.Arrived, ofMissing, 100, "gull", 0), api.OK},
		{"arrived, as anybody says", at(proof(api.Arrived, ofMissing, api.MaxTime, "pier", 0), place, 0), api.OK},
		{"arrived, as the source says", proof(api.Arrived, ofMissing, 100, "harbour", 0), api.ErrArg},
		{"a beacon has arrived", proof(api.Arrived, ofBeacon, 100, "gull", 0), api.ErrArg},
		{"a call has arrived", proof(api.Arrived, ofCall, 100, "boat", 0), api.ErrArg},
		{"a flare has arrived", proof(api.Arrived, ofFlare, 100, "boat", 0), api.ErrArg},

		{"a call is withdrawn", proof(api.Withdrawn, ofCall, 100, "kestrel", 0), api.OK},
		{"a call is withdrawn by another one", proof(api.Withdrawn, ofCall, 100, "buzzard", 0), api.ErrArg},
		{"a call is withdrawn by whom it is about", proof(api.Withdrawn, ofCall, 100, "boat", 0), api.ErrArg},
		{"a flare is withdrawn", at(proof(api.Withdrawn, ofFlare, api.MaxTime, "buzzard", 0), place, 0), api.OK},
		{"a flare is withdrawn by another one", proof(api.Withdrawn, ofFlare, 100, "kestrel", 0), api.ErrArg},
		{"a beacon is withdrawn", proof(api.Withdrawn, ofBeacon, 100, "sat-1", 0), api.ErrArg},
		{"something missing is withdrawn", proof(api.Withdrawn, ofMissing, 100, "harbour", 0), api.ErrArg},

		{"an exercise", at(proof(api.Exercise, ofFlare, 100, "navy", 0), 105, 5), api.OK},
		{"an exercise, in the box", at(proof(api.Exercise, ofFlare, 100, "navy", 0), 110, 10), api.OK},
		{"an exercise, to the right", at(proof(api.Exercise, ofFlare, 100, "navy", 0), 111, 5), api.ErrArg},
		{"an exercise, below", at(proof(api.Exercise, ofFlare, 100, "navy", 0), 105, -1), api.ErrArg},
		{"an exercise, around it", at(proof(api.Exercise, ofFlare, 100, "navy", 0), 0, -9, 200, -9, 0, 500), api.OK},
		{"an exercise, just not late", at(proof(api.Exercise, ofFlare, 150, "navy", 0), 110, 0, 120, -5), api.OK},
		{"an exercise, late", at(proof(api.Exercise, ofFlare, 151, "navy", 0), 105, 5), api.ErrArg},
		{"an exercise, by the source", at(proof(api.Exercise, ofFlare, 100, "buzzard", 0), 105, 5), api.OK},
		{"an exercise of a call", proof(api.Exercise, ofCall, 100, "navy", 0), api.ErrArg},
		{"an exercise of a beacon", at(proof(api.Exercise, ofBeacon, 100, "navy", 0), 200, 0), api.ErrArg},
		{"an exercise of something missing", at(proof(api.Exercise, ofMissing, 100, "navy", 0), 300, 0), api.ErrArg},
	} {
		k := provable(t)
		before := pictureOf(k)
		if e := k.Prove(c.p); e != c.e {
			t.Errorf("%s: error %d, want %d", c.what, e, c.e)
		}
		if c.e != api.OK {
			stays(t, c.what, k, before)
			closes(t, k, c.p.Report, c.p.Report, api.ErrState)
			continue
		}
		for n := range howMany { // it settles its own report, and no other incident's
			if n == c.p.Report {
				misses(t, k, n)
			} else {
				misses(t, k, n, n)
			}
		}
		closes(t, k, c.p.Report, -1, api.OK)
	}
}

// P5.3: proofs that are not valid.
func TestProveOfWrong(t *testing.T) {
	fitting := []api.Proof{
		foundBy(ofCall, 100, 4),
		proof(api.Owner, ofBeacon, 100, "b1", 0),
		proof(api.Arrived, ofMissing, 100, "gull", 0),
		proof(api.Withdrawn, ofCall, 100, "kestrel", 0),
		at(proof(api.Exercise, ofFlare, 100, "navy", 0), 105, 5),
	}
	changes := []func(p *api.Proof){
		func(p *api.Proof) { p.Kind = 0 },
		func(p *api.Proof) { p.Kind = 6 },
		func(p *api.Proof) { p.Kind = small },
		func(p *api.Proof) { p.Kind = big },
		func(p *api.Proof) { p.Time = 99 },
		func(p *api.Proof) { p.Time = -1 },
		func(p *api.Proof) { p.Time = api.MaxTime + 1 },
		func(p *api.Proof) { p.Time = big },
		func(p *api.Proof) { p.Where = nil },
		func(p *api.Proof) { p.Where = spots(105, 5, 105, 5) },
		func(p *api.Proof) { p.Where = spots(place+1, 0) },
		func(p *api.Proof) { p.Where = spots(0, 0, 0, 10, 10, 0) },
		func(p *api.Proof) { p.Count = -1 },
		func(p *api.Proof) { p.Count = api.MaxSouls + 1 },
		func(p *api.Proof) { p.Count = small },
		func(p *api.Proof) { p.Count = big },
	}
	k := provable(t)
	before := pictureOf(k)
	for _, p := range fitting {
		for i, change := range changes {
			wrong := p
			change(&wrong)
			if e := k.Prove(wrong); e != api.ErrArg {
				t.Errorf("change %d: %v has the error %d", i, wrong, e)
			}
		}
		if p.Kind != api.Found {
			wrong := p
			wrong.Count = 1
			if e := k.Prove(wrong); e != api.ErrArg {
				t.Errorf("a count: %v has the error %d", wrong, e)
			}
		}
		for _, n := range []int{-1, howMany, small, big} {
			wrong := p
			wrong.Report = n
			if e := k.Prove(wrong); e != api.ErrNone {
				t.Errorf("the report %d: error %d", n, e)
			}
			if e := k.Prove(api.Proof{Report: n}); e != api.ErrNone {
				t.Errorf("the report %d, and all else wrong: error %d", n, e)
			}
		}
	}
	for _, name := range []string{"", "A", "9", "-a", "a b", longName + "a", "a\n", "ä", "\xff"} {
		for _, p := range []api.Proof{foundBy(ofCall, 100, 4), fitting[2], fitting[4]} { // anybody can say these
			p.By = name
			if e := k.Prove(p); e != api.ErrArg {
				t.Errorf("by %q: %v has the error %d", name, p, e)
			}
		}
	}
	stays(t, "wrong proofs", k, before)
	for _, p := range fitting {
		proves(t, k, p, api.OK)
	}
	proves(t, k, proof(api.Arrived, ofMissing, 100, longName, 0), api.OK)
}

// P5.3: the first and the last time.
func TestProveTimes(t *testing.T) {
	k := bookOf(t, flare(0, 0, 0), flare(api.MaxTime, 0, 0))
	proves(t, k, foundBy(0, 0, 1), api.OK)
	proves(t, k, foundBy(0, api.MaxTime, 1), api.OK)
	proves(t, k, foundBy(1, api.MaxTime-1, 1), api.ErrArg)
	proves(t, k, foundBy(1, api.MaxTime, 1), api.OK)
}

// P5.3: a book has room for MaxProofs proofs.
func TestProveFull(t *testing.T) {
	k := bookOf(t, flare(0, 0, 0), beacon("x", 0, 900, 0), flare(0, 2000, 0))
	for n := range api.MaxProofs {
		proves(t, k, foundBy(2, 10, 1), api.OK)
		proves(t, k, foundBy(2, 10, 0), api.ErrArg) // none that the book would have
		if n == api.MaxProofs-2 {
			proves(t, k, proof(api.Owner, 1, 5, "x", 0), api.OK)
			break
		}
	}
	before := pictureOf(k)
	proves(t, k, foundBy(0, 10, 1), api.ErrFull)
	proves(t, k, foundBy(2, 10, 1), api.ErrFull)
	proves(t, k, proof(api.Owner, 1, 5, "x", 0), api.ErrFull)
	proves(t, k, foundBy(0, 10, 0), api.ErrArg)
	proves(t, k, foundBy(3, 10, 1), api.ErrNone)
	stays(t, "a full book", k, before)
	misses(t, k, 0, 0)
	misses(t, k, 1)
	misses(t, k, 2)
	takes(t, k, flare(11, 2000, 0), 2, api.Alone)
	misses(t, k, 2, 3)
}

// P5.3, P5.4: what was found for one report settles others of its incident, of all times until then, and of no more persons.
func TestFoundForOthers(t *testing.T) {
	for _, c := range []struct {
		what        string
		other       api.Report
		time, count int
		missing     []int
	}{
		{"at its time", with(3, call(50, 0, 0)), 50, 3, nil},
		{"after it", with(3, call(50, 0, 0)), 60, 3, nil},
		{"before it", with(3, call(50, 0, 0)), 49, 3, []int{1}},
		{"more", with(3, call(50, 0, 0)), 50, 9, nil},
		{"too few", with(3, call(50, 0, 0)), 50, 2, []int{1}},
		{"of nobody knows how many", with(-1, call(50, 0, 0)), 50, 1, nil},
		{"none of nobody knows how many", with(-1, call(50, 0, 0)), 50, 0, []int{1}},
		{"none of none", with(0, call(50, 0, 0)), 50, 0, nil},
		{"a beacon", beacon("x", 50, 0, 0), 50, 1, nil},
		{"a report of an earlier time", with(1, call(0, 0, 0)), 30, 1, nil},
	} {
		k := bookOf(t, with(0, call(30, 0, 0)), c.other)
		misses(t, k, 0, 0, 1)
		proves(t, k, foundBy(0, c.time, c.count), api.OK)
		misses(t, k, 0, c.missing...)
		if len(c.missing) == 0 {
			closes(t, k, 0, -1, api.OK)
		} else {
			closes(t, k, 0, 1, api.ErrState)
		}
		if t.Failed() {
			t.Fatal(c.what)
		}
	}
}

// P5.4: no other proof settles more than its own report, and what was found settles nothing of another incident.
func TestProofsOfOneReport(t *testing.T) {
	k := bookOf(t, beacon("x", 0, 0, 0), beacon("x", 10, 0, 0), overdue("x", 10, 0, 0), overdue("x", 10, 0, 0),
		call(10, 0, 0), call(10, 0, 0), flare(10, 0, 0), flare(10, 0, 0))
	has(t, k, 0, 0, 1, 2, 3, 4, 5, 6, 7)
	proves(t, k, proof(api.Owner, 0, 20, "x", 0), api.OK)
	misses(t, k, 0, 1, 2, 3, 4, 5, 6, 7)
	proves(t, k, proof(api.Arrived, 2, 20, "x", 0), api.OK)
	misses(t, k, 0, 1, 3, 4, 5, 6, 7)
	proves(t, k, proof(api.Withdrawn, 4, 20, "kestrel", 0), api.OK)
	misses(t, k, 0, 1, 3, 5, 6, 7)
	proves(t, k, proof(api.Exercise, 6, 20, "navy", 0), api.OK)
	misses(t, k, 0, 1, 3, 5, 7)
	closes(t, k, 0, 1, api.ErrState)
	takes(t, k, beacon("y", 0, 5000, 0), 1, api.Nothing)
	proves(t, k, foundBy(8, 30, api.MaxSouls), api.OK)
	misses(t, k, 1)
	misses(t, k, 0, 1, 3, 5, 7)
	proves(t, k, foundBy(7, 30, 2), api.OK) // the calls are for 4 persons
	misses(t, k, 0, 5)
	closes(t, k, 0, 5, api.ErrState)
	proves(t, k, foundBy(0, 30, 4), api.OK)
	misses(t, k, 0)
	closes(t, k, 0, -1, api.OK)
	proves(t, k, foundBy(0, 40, 1), api.OK) // a closed incident has proofs, too
	isOpen(t, k, 1)
}
