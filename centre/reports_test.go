package centre_test

import (
	"testing"

	"cresset/api"
)

// Hear: the incident and the reason are those of the book.
func TestHear(t *testing.T) {
	c := newCentre(t, rules())
	decides(t, c, hear(call(60, 0, 0)), gets(0, api.Nothing))
	decides(t, c, hear(call(90, 30, 30)), gets(0, api.Alone))
	decides(t, c, hear(call(90, 5000, 0)), gets(1, api.Nothing))
	decides(t, c, hear(callAbout("gull", 60, 0, 0)), gets(0, api.Alone))
	decides(t, c, hear(callAbout("gull", 9000, 9999, 9999)), gets(0, api.Claimed))
	decides(t, c, hear(callAbout("tern", 60, 0, 0)), gets(2, api.Nothing))
	decides(t, c, hear(call(60, 0, 0)), gets(3, api.Doubtful))
	for i := range 4 {
		stands(t, c, i, open())
	}
}

// Hear: the rules' Window and Drift are those of the book.
func TestHearByRules(t *testing.T) {
	for _, x := range []struct {
		window, drift int
		want          api.Decision
	}{
		{30, 3600, gets(0, api.Alone)}, {29, 3600, gets(1, api.Nothing)}, {30, 3599, gets(0, api.Alone)}, {30, 3480, gets(1, api.Nothing)},
	} {
		c := newCentre(t, api.Rules{Window: x.window, Drift: x.drift, Limit: of(1, 4), Pieces: 2})
		decides(t, c, hear(call(60, 0, 0)), gets(0, api.Nothing))
		decides(t, c, hear(call(90, 30, 0)), x.want)
	}
}

func TestHearRefuses(t *testing.T) {
	c := centreOf(t, hear(call(60, 0, 0)), begin(0, raft()))
	for _, change := range []func(r *api.Report){
		func(r *api.Report) { r.Kind = 0 },
		func(r *api.Report) { r.Time = -1 },
		func(r *api.Report) { r.Source = "" },
		func(r *api.Report) { r.About = longName + "a" },
		func(r *api.Report) { r.Where = nil },
		func(r *api.Report) { r.Souls = -2 },
		func(r *api.Report) { r.Trust = api.Whole + 1 },
		func(r *api.Report) { *r = api.Report{} },
	} {
		refuses(t, c, api.ErrArg, hear(changed(call(70, 0, 0), change)))
	}
	decides(t, c, hear(call(60, 5000, 0)), gets(1, api.Nothing))
}

// Hear: only a search that is suspended goes on; the decision does not say what is left.
func TestHearGoesOn(t *testing.T) {
	c := centreOf(t, hear(call(60, 0, 0)), hear(call(60, 5000, 0)), hear(call(60, -5000, 0)))
	for i := range 2 {
		decides(t, c, begin(i, raft()), leaves(i, of(1, 1)))
		decides(t, c, look(i, vain(0)), leaves(i, of(1, 2)))
		decides(t, c, look(i, vain(0)), leaves(i, of(1, 4)))
	}
	decides(t, c, suspend(0), leaves(0, of(1, 4)))
	decides(t, c, suspend(1), leaves(1, of(1, 4)))
	decides(t, c, hear(call(70, 5000, 5)), gets(1, api.Alone))
	decides(t, c, hear(call(70, -5000, 5)), gets(2, api.Alone))
	stands(t, c, 0, searched(api.Suspended, 0, 2, of(1, 4)))
	stands(t, c, 1, searched(api.Active, 0, 2, of(1, 4)))
	stands(t, c, 2, open())
	decides(t, c, hear(call(80, 5000, 5)), gets(1, api.Alone))
	stands(t, c, 1, searched(api.Active, 0, 2, of(1, 4)))
	refuses(t, c, api.ErrArg, hear(api.Report{}))
	stands(t, c, 0, searched(api.Suspended, 0, 2, of(1, 4)))
	decides(t, c, hear(call(3000, 9, 9)), gets(0, api.Alone))
	stands(t, c, 0, searched(api.Active, 0, 2, of(1, 4)))
}

// Prove: N is the incident that has the report.
func TestProve(t *testing.T) {
	c := centreOf(t, hear(call(60, 5000, 0)), hear(call(60, 0, 0)), hear(call(90, 5000, 9)), begin(0, raft()), look(0, vain(0)), look(0, vain(0)), suspend(0))
	decides(t, c, prove(withdrawn(2, 90)), gets(0, 0))
	decides(t, c, prove(withdrawn(1, 90)), gets(1, 0))
	decides(t, c, prove(foundBy(0, 60, 4)), gets(0, 0))
	decides(t, c, prove(foundBy(0, 60, 4)), gets(0, 0))
	stands(t, c, 0, searched(api.Suspended, 0, 2, of(1, 4)))
	stands(t, c, 1, open())
}

func TestProveRefuses(t *testing.T) {
	c := newCentre(t, rules())
	refuses(t, c, api.ErrNone, prove(foundBy(0, 60, 4)), prove(api.Proof{}))
	c = centreOf(t, hear(call(60, 0, 0)), hear(call(60, 5000, 0)))
	for _, n := range outside(0, 1) {
		refuses(t, c, api.ErrNone, prove(foundBy(n, 60, 4)), prove(api.Proof{Report: n}))
	}
	refuses(t, c, api.ErrArg, prove(foundBy(1, 59, 4)), prove(foundBy(1, 60, 3)), prove(withdrawn(1, 59)), prove(api.Proof{}))
	wrong := withdrawn(0, 60)
	wrong.By = "heron"
	refuses(t, c, api.ErrArg, prove(wrong))
	decides(t, c, closing(1), api.Decision{Error: api.ErrState, N: 1, Why: 1})
}

// Close: N is the matter's N, and Why what the book returns, with an error, too.
func TestClose(t *testing.T) {
	c := newCentre(t, rules())
	for _, n := range []int{0, 1, -1, small, big} {
		decides(t, c, closing(n), api.Decision{Error: api.ErrNone, N: n, Why: -1})
	}
	c = centreOf(t, hear(call(60, 0, 0)), hear(call(60, 5000, 0)), hear(call(90, 0, 9)), hear(call(90, 5000, 9)))
	for _, n := range outside(0, 1) {
		decides(t, c, closing(n), api.Decision{Error: api.ErrNone, N: n, Why: -1})
	}
	decides(t, c, closing(0), api.Decision{Error: api.ErrState, N: 0, Why: 0})
	decides(t, c, closing(1), api.Decision{Error: api.ErrState, N: 1, Why: 1})
	decides(t, c, prove(withdrawn(1, 90)), gets(1, 0))
	decides(t, c, closing(1), api.Decision{Error: api.ErrState, N: 1, Why: 3})
	decides(t, c, prove(withdrawn(3, 90)), gets(1, 0))
	stands(t, c, 1, open())
	decides(t, c, closing(1), gets(1, -1))
	stands(t, c, 1, api.Status{})
	decides(t, c, closing(1), api.Decision{Error: api.ErrState, N: 1, Why: -1})
	stands(t, c, 0, open())
	decides(t, c, hear(callAbout("gull", 95, 5000, 9)), gets(2, api.Nothing)) // a closed one has just what is about the same
}

// Close: all that belongs to a search is gone, be it active or suspended; a closed incident that gets a report is open, without a search.
func TestCloseEndsSearch(t *testing.T) {
	for _, suspended := range []bool{false, true} {
		c := centreOf(t, hear(callAbout("gull", 60, 0, 0)), begin(0, drifter()), pass(0), look(0, vain(0)), look(0, vain(1)), look(0, vain(0)))
		if suspended {
			decides(t, c, suspend(0), leaves(0, of(3, 16)))
		}
		decides(t, c, closing(0), api.Decision{Error: api.ErrState})
		decides(t, c, prove(withdrawn(0, 90)), gets(0, 0))
		decides(t, c, closing(0), gets(0, -1))
		stands(t, c, 0, api.Status{})
		refuses(t, c, api.ErrState, begin(0, raft()), pass(0), look(0, vain(0)), suspend(0))
		decides(t, c, hear(callAbout("gull", 5000, 0, 0)), gets(0, api.Claimed))
		stands(t, c, 0, open())
		refuses(t, c, api.ErrState, pass(0), look(0, vain(0)), suspend(0))
		decides(t, c, begin(0, raft()), leaves(0, of(1, 1)))
		stands(t, c, 0, searched(api.Active, 0, 0, of(1, 1)))
		decides(t, c, look(0, vain(0)), leaves(0, of(1, 2)))
	}
}
