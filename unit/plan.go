package unit

import (
	"iter"

	"cresset/api"
)

// Plan returns the legs of a route, and of the way home.
func Plan(u api.Unit, start int, route []api.Way, sky []api.Front) (legs []api.Leg, at, why int, e api.Errno) {
	switch {
	case !CheckUnit(u) || !CheckWeather(sky) || !all(route, isWay) || !isTime(start):
		return nil, -1, 0, api.ErrArg
	case len(route) > api.MaxRoute:
		return nil, -1, 0, api.ErrLong
	}
	return trip{Unit: u, sky: sky, since: start, at: u.Base, now: start, fuel: u.Fuel}.follow(route)
}

// Again plans anew, for a unit that is under way.
func Again(u api.Unit, legs []api.Leg, t int, route []api.Way, sky []api.Front) (next []api.Leg, at, why int, e api.Errno) {
	if !CheckUnit(u) || !areLegs(legs) || !CheckWeather(sky) || !all(route, isWay) {
		return nil, -1, 0, api.ErrArg
	}
	leg, ok := legAt(legs, t)
	switch {
	case !ok:
		return nil, -1, 0, api.ErrNone
	case len(route) > api.MaxRoute:
		return nil, -1, 0, api.ErrLong
	}
	low, _ := placeAt(leg, t)
	p := trip{Unit: u, sky: sky, since: legs[0].Start, at: low, now: t, fuel: leftAt(u, leg, t)}
	if len(route) > 0 {
		return p.follow(route)
	}
	next, at, why, e = p.follow([]api.Way{{To: low}})
	if e == api.OK {
		next = next[1:]
	}
	return next, at, why, e
}

// trip is a plan that is under way: the unit, the weather, the time from which its hours count, and where, when and with how much fuel it is now.
type trip struct {
	api.Unit
	sky       []api.Front
	since     int
	at        api.Spot
	now, fuel int
}

// follow returns the legs of a route, and of the way home; or the first way with which the unit cannot go on, and why.
func (p trip) follow(route []api.Way) (legs []api.Leg, at, why int, e api.Errno) {
	for leg, why := range p.legs(route) {
		if why != 0 {
			return nil, len(legs), why, api.ErrState
		}
		legs = append(legs, leg)
	}
	return legs, -1, 0, api.OK
}

// legs yields the legs of a route, and of the way home, each with 0; or the first one with which the unit cannot go on, with the reason, as the last one.
func (p trip) legs(route []api.Way) iter.Seq2[api.Leg, int] {
	return func(yield func(leg api.Leg, why int) bool) {
		now := p
		for _, w := range route {
			s := now.step(w)
			why := s.why()
			if !yield(s.out, why) || why != 0 {
				return
			}
			now = now.after(s.out)
		}
		yield(now.home(), 0)
	}
}

// leg returns the leg of a way from where the unit is now.
func (p trip) leg(w api.Way) api.Leg {
	arrive := p.now + timeOf(p.Unit, p.at, w.To)
	leave := arrive + w.Stay
	return api.Leg{From: p.at, To: w.To, Start: p.now, Arrive: arrive, Leave: leave, Fuel: p.fuel - burntIn(p.Unit, leave-p.now)}
}

// home returns the leg of the way home.
func (p trip) home() api.Leg {
	return p.leg(api.Way{To: p.Base})
}

// after returns the trip at the end of a leg.
func (p trip) after(l api.Leg) trip {
	p.at, p.now, p.fuel = l.To, l.Leave, l.Fuel
	return p
}

// step returns a way from where the unit is now, and what the way home would be behind it.
func (p trip) step(w api.Way) step {
	out := p.leg(w)
	return step{p, out, p.after(out).home()}
}

// step is a leg out that a trip may have next, and the leg back home behind it.
type step struct {
	trip
	out, back api.Leg
}

// why returns the first reason for which the unit cannot go on, or 0.
func (s step) why() int {
	for _, r := range []struct {
		why     int
		applies func() bool
	}{
		{api.NoTime, s.endsTooLate},
		{api.NoFuel, s.lacksFuel},
		{api.NoHours, s.lastsTooLong},
		{api.NoWeather, s.meetsWeather},
	} {
		if r.applies() {
			return r.why
		}
	}
	return 0
}

func (s step) endsTooLate() bool {
	return s.back.Leave > api.MaxTime
}

func (s step) lacksFuel() bool {
	return s.back.Fuel < s.Reserve
}

func (s step) lastsTooLong() bool {
	return s.back.Leave-s.since > s.Hours
}

func (s step) meetsWeather() bool {
	return !all(s.sky, func(f api.Front) bool {
		return f.Sea <= s.Sea && f.Wind <= s.Wind || !concerns(f, s.out) && !concerns(f, s.back)
	})
}

// concerns reports whether weather concerns the way of a leg.
func concerns(f api.Front, l api.Leg) bool {
	low, high := boxAround(l.From, l.To)
	return meet(f.From, f.To, l.Start, l.Leave) && meet(f.Low.X, f.High.X, low.X, high.X) && meet(f.Low.Y, f.High.Y, low.Y, high.Y)
}
