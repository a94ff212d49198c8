package unit_test

import (
	"math/big"

	"cresset/api"
)

// What follows is the chapter's text, word by word, with numbers of any size.

func number(n int) *big.Int {
	return big.NewInt(int64(n))
}

// upper returns a / b, rounded up.
func upper(a, b *big.Int) int {
	q, r := new(big.Int).DivMod(a, b, new(big.Int))
	if r.Sign() != 0 {
		q.Add(q, number(1))
	}
	return int(q.Int64())
}

func times(factors ...int) *big.Int {
	n := number(1)
	for _, f := range factors {
		n.Mul(n, number(f))
	}
	return n
}

func modelDistance(a, b api.Spot) int {
	square := new(big.Int).Add(times(a.X-b.X, a.X-b.X), times(a.Y-b.Y, a.Y-b.Y))
	root := new(big.Int).Sqrt(square)
	if new(big.Int).Mul(root, root).Cmp(square) < 0 {
		root.Add(root, number(1))
	}
	return int(root.Int64())
}

func modelTime(u api.Unit, a, b api.Spot) int {
	return upper(times(modelDistance(a, b), 3600), number(u.Speed))
}

func modelBurns(u api.Unit, t int) int {
	return upper(times(u.Burn, t), number(3600))
}

// modelConcerns reports whether weather concerns a way: there are a time, an X and a Y that are in both intervals, so one of their ends is.
func modelConcerns(f api.Front, a, b api.Spot, from, to int) bool {
	common := func(low, high, otherLow, otherHigh int) bool {
		for _, n := range []int{low, high, otherLow, otherHigh} {
			if low <= n && n <= high && otherLow <= n && n <= otherHigh {
				return true
			}
		}
		return false
	}
	return common(f.From, f.To, from, to) && common(f.Low.X, f.High.X, min(a.X, b.X), max(a.X, b.X)) && common(f.Low.Y, f.High.Y, min(a.Y, b.Y), max(a.Y, b.Y))
}

// modelPlan plans from a place and a time, with fuel, whose hours count from another time.
func modelPlan(u api.Unit, since int, at api.Spot, now, fuel int, route []api.Way, sky []api.Front) (legs []api.Leg, n, why int) {
	for i, w := range route {
		arrive := now + modelTime(u, at, w.To)
		leave := arrive + w.Stay
		fuel -= modelBurns(u, leave-now)
		homeTime := modelTime(u, w.To, u.Base)
		home := leave + homeTime
		bad := false
		for _, f := range sky {
			if f.Sea > u.Sea || f.Wind > u.Wind {
				bad = bad || modelConcerns(f, at, w.To, now, leave) || modelConcerns(f, w.To, u.Base, leave, home)
			}
		}
		switch {
		case home > 1<<30:
			return nil, i, 4
		case fuel-modelBurns(u, homeTime) < u.Reserve:
			return nil, i, 1
		case home-since > u.Hours:
			return nil, i, 2
		case bad:
			return nil, i, 3
		}
		legs = append(legs, api.Leg{From: at, To: w.To, Start: now, Arrive: arrive, Leave: leave, Fuel: fuel})
		at, now = w.To, leave
	}
	homeTime := modelTime(u, at, u.Base)
	home := api.Leg{From: at, To: u.Base, Start: now, Arrive: now + homeTime, Leave: now + homeTime, Fuel: fuel - modelBurns(u, homeTime)}
	return append(legs, home), -1, 0
}

// modelPlace returns the exact place at a time of a leg.
func modelPlace(l api.Leg, t *big.Rat) (x, y *big.Rat) {
	whole := func(n int) *big.Rat { return new(big.Rat).SetInt(number(n)) }
	if t.Cmp(whole(l.Arrive)) >= 0 {
		return whole(l.To.X), whole(l.To.Y)
	}
	part := new(big.Rat).Sub(t, whole(l.Start))
	part.Quo(part, whole(l.Arrive-l.Start))
	x = new(big.Rat).Mul(whole(l.To.X-l.From.X), part)
	y = new(big.Rat).Mul(whole(l.To.Y-l.From.Y), part)
	return x.Add(x, whole(l.From.X)), y.Add(y, whole(l.From.Y))
}

// modelLeg returns the first leg whose Leave is at least t, or nil.
func modelLeg(legs []api.Leg, t int) *api.Leg {
	for i, l := range legs {
		if t >= legs[0].Start && t <= l.Leave {
			return &legs[i]
		}
	}
	return nil
}

func lower(r *big.Rat) int {
	return int(new(big.Int).Div(r.Num(), r.Denom()).Int64()) // the remainder is not below 0
}

func higher(r *big.Rat) int {
	return upper(r.Num(), r.Denom())
}

func modelWhere(l api.Leg, t int) (low, high api.Spot) {
	x, y := modelPlace(l, new(big.Rat).SetInt(number(t)))
	return spot(lower(x), lower(y)), spot(higher(x), higher(y))
}

func modelLeft(u api.Unit, l api.Leg, t int) int {
	return l.Fuel + int(new(big.Int).Div(times(u.Burn, l.Leave-t), number(3600)).Int64())
}
