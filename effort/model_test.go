package effort_test

import (
	"math/big"

	"cresset/api"
)

// model follows the chapter word by word, with math/big, and notes whether a fraction on the way does not fit.
type model struct {
	t    api.Effort
	wide bool
}

// tooLong is the least number with more than MaxDigits digits.
var tooLong = new(big.Int).Exp(big.NewInt(10), big.NewInt(api.MaxDigits), nil)

// fit notes it if r does not fit.
func (m *model) fit(r *big.Rat) *big.Rat {
	if r.Num().CmpAbs(tooLong) >= 0 || r.Denom().Cmp(tooLong) >= 0 {
		m.wide = true
	}
	return r
}

func (m *model) add(a, b *big.Rat) *big.Rat { return m.fit(new(big.Rat).Add(a, b)) }
func (m *model) sub(a, b *big.Rat) *big.Rat { return m.fit(new(big.Rat).Sub(a, b)) }
func (m *model) mul(a, b *big.Rat) *big.Rat { return m.fit(new(big.Rat).Mul(a, b)) }
func (m *model) quo(a, b *big.Rat) *big.Rat { return m.fit(new(big.Rat).Quo(a, b)) }

func (m *model) error() api.Errno {
	if m.wide {
		return api.ErrRange
	}
	return api.OK
}

func (m *model) rate(team, site int) *big.Rat {
	return ratOf(m.t.Rates[team][site])
}

// cover is the coverage of a site by a plan.
func (m *model) cover(plan [][]int, site int) *big.Rat {
	sum := new(big.Rat)
	for team := range plan {
		sum = m.add(sum, m.mul(m.rate(team, site), big.NewRat(int64(plan[team][site]), 1)))
	}
	return sum
}

// bends returns the coverages and the chances of a site's curve.
func (m *model) bends(site int) (covers, chances []*big.Rat) {
	for _, b := range m.t.Sites[site].Curve {
		covers, chances = append(covers, ratOf(b.Cover)), append(chances, ratOf(b.Chance))
	}
	return covers, chances
}

// slope is the slope of a site's curve at a coverage.
func (m *model) slope(site int, c *big.Rat) *big.Rat {
	covers, chances := m.bends(site)
	last := len(covers) - 1
	if c.Cmp(covers[last]) >= 0 {
		return new(big.Rat)
	}
	b := 0
	for i := range covers {
		if covers[i].Cmp(c) <= 0 {
			b = i
		}
	}
	return m.quo(m.sub(chances[b+1], chances[b]), m.sub(covers[b+1], covers[b]))
}

// chance is the chance of a coverage by a site's curve.
func (m *model) chance(site int, c *big.Rat) *big.Rat {
	covers, chances := m.bends(site)
	last := len(covers) - 1
	if c.Cmp(covers[last]) >= 0 {
		return chances[last]
	}
	for covers[last].Cmp(c) > 0 {
		last--
	}
	return m.add(chances[last], m.mul(m.slope(site, c), m.sub(c, covers[last])))
}

func (m *model) weight(site int) *big.Rat {
	return ratOf(m.t.Sites[site].Weight)
}

func (m *model) covers(plan [][]int) []*big.Rat {
	var l []*big.Rat
	for site := range m.t.Sites {
		l = append(l, m.cover(plan, site))
	}
	return l
}

// value is the value of a plan.
func (m *model) value(plan [][]int) *big.Rat {
	sum := new(big.Rat)
	for site, c := range m.covers(plan) {
		sum = m.add(sum, m.mul(m.weight(site), m.chance(site, c)))
	}
	return sum
}

// gain is the gain of a team at a site, for a plan.
func (m *model) gain(plan [][]int, team, site int) *big.Rat {
	more := copyOfRows(plan)
	more[team][site]++
	return m.mul(m.weight(site), m.sub(m.chance(site, m.cover(more, site)), m.chance(site, m.cover(plan, site))))
}

func (m *model) prices(plan [][]int) []*big.Rat {
	var prices []*big.Rat
	for team := range plan {
		best := new(big.Rat)
		for site := range m.t.Sites {
			price := m.mul(m.mul(m.weight(site), m.slope(site, m.cover(plan, site))), m.rate(team, site))
			if price.Cmp(best) > 0 {
				best = price
			}
		}
		prices = append(prices, best)
	}
	return prices
}

// surplus is the surplus of a site.
func (m *model) surplus(prices []*big.Rat, site int) *big.Rat {
	var least *big.Rat
	for team, price := range prices {
		if m.rate(team, site).Sign() > 0 {
			if c := m.quo(price, m.rate(team, site)); least == nil || c.Cmp(least) < 0 {
				least = c
			}
		}
	}
	best := new(big.Rat)
	if least == nil {
		return best
	}
	covers, chances := m.bends(site)
	for b := range covers {
		if left := m.sub(m.mul(m.weight(site), chances[b]), m.mul(least, covers[b])); left.Cmp(best) > 0 {
			best = left
		}
	}
	return best
}

// bound is the bound of prices.
func (m *model) bound(prices []*big.Rat) *big.Rat {
	sum := new(big.Rat)
	for team, price := range prices {
		sum = m.add(sum, m.mul(price, big.NewRat(int64(m.t.Hours[team]), 1)))
	}
	for site := range m.t.Sites {
		sum = m.add(sum, m.surplus(prices, site))
	}
	return sum
}

// left is how many hours of a team are not in a plan.
func (m *model) left(plan [][]int, team int) int {
	left := m.t.Hours[team]
	for _, n := range plan[team] {
		left -= n
	}
	return left
}

// greedy is the plan of Greedy.
func (m *model) greedy() [][]int {
	plan, _ := nothing(m.t)
	for {
		best, bestTeam, bestSite := new(big.Rat), 0, 0
		for team := range m.t.Hours {
			for site := range m.t.Sites {
				if m.left(plan, team) > 0 && m.rate(team, site).Sign() > 0 {
					if gain := m.gain(plan, team, site); gain.Cmp(best) > 0 {
						best, bestTeam, bestSite = gain, team, site
					}
				}
			}
		}
		if best.Sign() == 0 {
			return plan
		}
		plan[bestTeam][bestSite]++
	}
}

// improve is the plan of Improve, and the number of its moves. It ends at once if a value does not fit.
func (m *model) improve(plan [][]int, rounds int) (better [][]int, moves int) {
	for moves < rounds {
		next := m.firstMove(plan)
		if next == nil || m.wide {
			break
		}
		plan, moves = next, moves+1
	}
	return plan, moves
}

// firstMove is the plan after the first move that makes it better; nil if there is none.
func (m *model) firstMove(plan [][]int) [][]int {
	value := m.value(plan)
	for team := range m.t.Hours {
		for from := range m.t.Sites {
			for to := range m.t.Sites {
				if from == to || plan[team][from] == 0 || m.rate(team, to).Sign() == 0 {
					continue
				}
				next := copyOfRows(plan)
				next[team][from]--
				next[team][to]++
				if m.value(next).Cmp(value) > 0 || m.wide {
					return next
				}
			}
		}
	}
	return nil
}

// solve is the answer of Solve, if nothing on the way does not fit.
func (m *model) solve(rounds int) api.Answer {
	plan, _ := m.improve(m.greedy(), rounds)
	value, prices := m.value(plan), m.prices(plan)
	bound := m.bound(prices)
	return api.Answer{Plan: plan, Value: partOf(value), Prices: partsOf(prices), Bound: partOf(bound), Gap: partOf(m.sub(bound, value))}
}
