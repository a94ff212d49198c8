package belief_test

import (
	"iter"
	"math/big"
	"slices"

	"cresset/api"
	"cresset/grid"
)

// model follows the chapter word by word, with math/big. It panics with the first error.
type model struct{ b api.Belief }

// spot is a place of the chapter.
type spot struct {
	scene int
	cell  api.Cell
}

// places yields all places of a belief in the order of masses.
func places(b api.Belief) iter.Seq[spot] {
	return func(yield func(spot) bool) {
		for n := range b.Scenes {
			if !yield(spot{n, away}) {
				return
			}
			for y := range b.Sea.H {
				for x := range b.Sea.W {
					if !yield(spot{n, at(x, y)}) {
						return
					}
				}
			}
		}
	}
}

// modelled returns what the model does, and its error.
func modelled(work func()) (e api.Errno) {
	defer func() {
		if r := recover(); r != nil {
			e = r.(api.Errno)
		}
	}()
	work()
	return api.OK
}

// tooLong returns the least number that has more than so many digits.
func tooLong(digits int64) *big.Int {
	return new(big.Int).Exp(big.NewInt(10), big.NewInt(digits), nil)
}

var (
	tooWide = tooLong(api.MaxDigits)
	tooDeep = tooLong(api.MaxDeep)
)

// fit returns r, if both of its numbers are below a limit.
func fit(r *big.Rat, limit *big.Int) *big.Rat {
	if r.Num().CmpAbs(limit) >= 0 || r.Denom().Cmp(limit) >= 0 {
		panic(api.ErrRange)
	}
	return r
}

func add(a, b *big.Rat) *big.Rat { return fit(new(big.Rat).Add(a, b), tooWide) }
func mul(a, b *big.Rat) *big.Rat { return fit(new(big.Rat).Mul(a, b), tooWide) }
func quo(a, b *big.Rat) *big.Rat { return fit(new(big.Rat).Quo(a, b), tooWide) }

func sum(l []*big.Rat) *big.Rat {
	all := new(big.Rat)
	for _, r := range l {
		all = add(all, r)
	}
	return all
}

// share is Share of layer 1.
func share(l []*big.Rat) []*big.Rat {
	all := sum(l)
	if all.Sign() == 0 {
		panic(api.ErrNone)
	}
	var shares []*big.Rat
	for _, r := range l {
		shares = append(shares, quo(r, all))
	}
	return shares
}

// weights are those of places; a place that is not there has 0.
type weights map[spot]*big.Rat

func (w weights) add(p spot, r *big.Rat) {
	if w[p] == nil {
		w[p] = new(big.Rat)
	}
	w[p] = add(w[p], r)
}

// masses is the list of weights, as it is returned.
func (m model) masses(w weights) []api.Mass {
	var l []api.Mass
	for p := range places(m.b) {
		if w[p] != nil && w[p].Sign() > 0 {
			l = append(l, api.Mass{Scene: p.scene, Cell: p.cell, Weight: partOf(fit(w[p], tooDeep))})
		}
	}
	return l
}

func (m model) begin() []api.Mass {
	var scenes []*big.Rat
	for _, s := range m.b.Scenes {
		scenes = append(scenes, ratOf(s.Weight))
	}
	w := weights{}
	for n, of := range share(scenes) {
		var cells []*big.Rat
		for _, s := range m.b.Scenes[n].Start {
			cells = append(cells, ratOf(s.Weight))
		}
		for i, cell := range share(cells) {
			w.add(spot{n, m.b.Scenes[n].Start[i].Cell}, mul(of, cell))
		}
	}
	return m.masses(w)
}

func (m model) stays(p spot) bool {
	return p.cell == away || grid.Has(m.b.Sea.Land, p.cell)
}

// leads is the place to which a stride leads.
func (m model) leads(p spot, s api.Stride) spot {
	to := at(p.cell.X+s.DX, p.cell.Y+s.DY)
	if to.X < 0 || to.Y < 0 || to.X >= m.b.Sea.W || to.Y >= m.b.Sea.H {
		to = away
	}
	return spot{p.scene, to}
}

func (m model) predict(l []api.Mass) []api.Mass {
	w := weights{}
	for _, next := range l {
		p := spot{next.Scene, next.Cell}
		if m.stays(p) {
			w.add(p, ratOf(next.Weight))
			continue
		}
		for _, s := range m.b.Scenes[p.scene].Strides {
			w.add(m.leads(p, s), mul(ratOf(next.Weight), ratOf(s.Chance)))
		}
	}
	return m.masses(w)
}

// factor is a notice's factor for a place.
func (m model) factor(n api.Notice, p spot) *big.Rat {
	if n.Of/(1<<p.scene)%2 == 0 {
		return big.NewRat(1, 1)
	}
	if grid.Has(n.Where, p.cell) {
		return ratOf(n.In)
	}
	return ratOf(n.Out)
}

// shares is the Share of the products of masses with what is told of them, and the sum of these.
func (m model) shares(l []api.Mass, told func(p spot) *big.Rat) ([]api.Mass, *big.Rat) {
	var products []*big.Rat
	for _, next := range l {
		products = append(products, mul(ratOf(next.Weight), told(spot{next.Scene, next.Cell})))
	}
	w := weights{}
	for i, r := range share(products) {
		w[spot{l[i].Scene, l[i].Cell}] = r
	}
	return m.masses(w), sum(products)
}

func (m model) learn(l []api.Mass, n api.Notice) ([]api.Mass, *big.Rat) {
	if len(l) == 0 {
		panic(api.ErrNone)
	}
	return m.shares(l, func(p spot) *big.Rat { return m.factor(n, p) })
}

// filter is the masses at each time, and what is left at the end.
func (m model) filter(notices []api.Notice, steps int) (times [][]api.Mass, left *big.Rat) {
	var l []api.Mass
	left = big.NewRat(1, 1)
	for t := 0; t <= steps; t++ {
		if t == 0 {
			l = m.begin()
		} else {
			l = m.predict(l)
		}
		for _, n := range notices {
			if n.Time == t {
				var evidence *big.Rat
				l, evidence = m.learn(l, n)
				left = mul(left, evidence)
			}
		}
		times = append(times, l)
	}
	return times, left
}

// noticed is what is noticed at a place at a time.
func (m model) noticed(notices []api.Notice, t int, p spot) *big.Rat {
	product := big.NewRat(1, 1)
	for _, n := range notices {
		if n.Time == t {
			product = mul(product, m.factor(n, p))
		}
	}
	return product
}

// follows is what follows from a place at a time.
func (m model) follows(notices []api.Notice, t, steps int, p spot) *big.Rat {
	if t == steps {
		return big.NewRat(1, 1)
	}
	if m.stays(p) {
		return mul(m.noticed(notices, t+1, p), m.follows(notices, t+1, steps, p))
	}
	all := new(big.Rat)
	for _, s := range m.b.Scenes[p.scene].Strides {
		to := m.leads(p, s)
		all = add(all, mul(mul(ratOf(s.Chance), m.noticed(notices, t+1, to)), m.follows(notices, t+1, steps, to)))
	}
	return all
}

func (m model) smooth(notices []api.Notice, steps int) [][]api.Mass {
	filtered, _ := m.filter(notices, steps)
	var times [][]api.Mass
	for t, l := range filtered {
		smoothed, _ := m.shares(l, func(p spot) *big.Rat { return m.follows(notices, t, steps, p) })
		times = append(times, smoothed)
	}
	return times
}

func (m model) scenes(l []api.Mass) []api.Part {
	var sums []api.Part
	for n := range m.b.Scenes {
		all := new(big.Rat)
		for _, next := range l {
			if next.Scene == n {
				all = add(all, ratOf(next.Weight))
			}
		}
		sums = append(sums, partOf(all))
	}
	return sums
}

func (m model) cells(l []api.Mass) []api.Share {
	var shares []api.Share
	for p := range places(api.Belief{Sea: m.b.Sea, Scenes: m.b.Scenes[:1]}) {
		all := new(big.Rat)
		for _, next := range l {
			if next.Cell == p.cell {
				all = add(all, ratOf(next.Weight))
			}
		}
		if all.Sign() > 0 {
			shares = append(shares, api.Share{Cell: p.cell, Weight: partOf(all)})
		}
	}
	return shares
}

// likely takes a cell with the greatest weight of those that are left, the first one, as long as it needs one.
func (m model) likely(l []api.Mass, p api.Part) []api.Run {
	left := m.cells(l)
	left = slices.DeleteFunc(left, func(s api.Share) bool { return s.Cell == away })
	var chosen []api.Cell
	for all := new(big.Rat); all.Cmp(ratOf(p)) < 0; {
		if len(left) == 0 {
			panic(api.ErrNone)
		}
		best := 0
		for i, s := range left {
			if ratOf(s.Weight).Cmp(ratOf(left[best].Weight)) > 0 {
				best = i
			}
		}
		all = add(all, ratOf(left[best].Weight))
		chosen = append(chosen, left[best].Cell)
		left = slices.Delete(left, best, best+1)
	}
	region, e := grid.Region(m.b.Sea, chosen)
	if e != api.OK {
		panic(e)
	}
	return region
}
