package effort_test

import (
	"math/big"
	"math/rand"
	"slices"
	"testing"

	"cresset/api"
	"cresset/effort"
)

// over returns 1 / n, and 1 - 1 / n.
func over(n *big.Int) (less, more api.Part) {
	r := new(big.Rat).SetFrac(big.NewInt(1), n)
	return partOf(r), partOf(new(big.Rat).Sub(big.NewRat(1, 1), r))
}

// finding returns a site where a coverage of 1 finds just so much: weight times chance.
func finding(weight, chance api.Part) api.Site {
	return api.Site{Weight: weight, Curve: straight(chance)}
}

// wideSites returns 22 sites of which each finds 1 divided by a number of 27 digits, all together something with 594 digits, and a number with so many digits that has no common divisor with them.
func wideSites(more int) ([]api.Site, *big.Int) {
	var digits []int
	for range 22 {
		digits = append(digits, 9, 18)
	}
	numbers := coprimes(append(digits, more)...)
	var sites []api.Site
	for pair := range slices.Chunk(numbers[:44], 2) {
		weight, _ := over(pair[0])
		chance, _ := over(pair[1])
		sites = append(sites, finding(weight, chance))
	}
	return sites, numbers[44]
}

// valueOf checks what Value returns of an hour at each site, against the model's value, and one that is told.
func valueOf(t *testing.T, what string, digits int, want api.Errno, sites ...api.Site) {
	t.Helper()
	task := task([]int{len(sites)}, of(1, 1), sites...)
	m := model{t: task}
	plan := [][]int{slices.Repeat([]int{1}, len(sites))}
	value := partOf(m.value(plan))
	if len(value.Den) != digits || m.error() != want {
		t.Errorf("%s: the model's value has %d digits, error %d", what, len(value.Den), m.error())
	}
	if want != api.OK {
		value = api.Part{}
	}
	p, e := effort.Value(task, plan)
	is(t, what, p, e, value, want)
	better, moves, e := effort.Improve(task, plan, 0)
	isPlan(t, what+": Improve by no round", better, e, plan, api.OK)
	if moves != 0 {
		t.Errorf("%s: %d moves", what, moves)
	}
	if want != api.OK {
		isImproved(t, what+": Improve", task, plan, 1, nil, 0, api.ErrRange)
	}
}

// P7.1, P7.4: values with up to 600 digits fit, and so have all sums on the way to.
func TestValueThatJustFits(t *testing.T) {
	one := of(1, 1)
	for digits, want := range map[int]api.Errno{6: api.OK, 7: api.ErrRange} {
		sites, n := wideSites(digits)
		less, _ := over(n)
		valueOf(t, "Value", 594+digits, want, append(sites, finding(less, one))...)
	}
	sites, n := wideSites(18)
	less, more := over(n)
	valueOf(t, "a sum on the way", 594, api.ErrRange, append(sites, finding(one, less), finding(one, more))...)
	valueOf(t, "the other order", 594, api.OK, append([]api.Site{finding(one, less), finding(one, more)}, sites...)...)
	valueOf(t, "a greater sum on the way", 594, api.ErrRange, append(sites, finding(one, more), finding(one, less))...)
}

// P7.2: sums of prices with up to 600 digits fit, and so have all sums on the way to.
func TestBoundThatJustFits(t *testing.T) {
	numbers := coprimes(300, 300, 300, 299, 2)
	a, _ := over(numbers[0])
	b, _ := over(numbers[1])
	less, more := over(numbers[2])
	short, _ := over(numbers[3])
	two, _ := over(numbers[4])
	digit := of(1, 8)
	one := finding(of(1, 1), of(1, 1))
	free := finding(of(1, 1), digit)
	far := task([]int{1, 1, 1, 1}, of(0, 1), one) // a site where nobody can be
	near := task([]int{1, 1, 1}, of(0, 1), free, free)
	near.Rates[2] = row(2, of(1, 1))
	parts := copyOf(near)
	parts.Sites[1] = finding(of(1, 1), of(7, 8))
	idle := copyOf(far)
	idle.Hours[2] = 0
	none := of(0, 1)
	for _, c := range []struct {
		what   string
		task   api.Effort
		prices []api.Part
		digits int
		e      api.Errno
	}{
		{"600 digits", far, []api.Part{a, b, none, none}, 600, api.OK},
		{"601 digits", far, []api.Part{short, b, two, none}, 601, api.ErrRange},
		{"600 digits of three", far, []api.Part{short, b, digit, none}, 600, api.OK},
		{"a sum on the way", far, []api.Part{a, b, less, more}, 600, api.ErrRange},
		{"the other order", far, []api.Part{less, more, a, b}, 600, api.OK},
		{"a price of no hours", idle, []api.Part{a, b, less, none}, 600, api.OK},
		{"surplus that does not fit beside prices", near, []api.Part{a, b, none}, 601, api.ErrRange},
		{"surplus beside shorter prices", near, []api.Part{short, b, none}, 600, api.OK},
		{"surplus that would fit if it was added up on its own", parts, []api.Part{a, b, none}, 600, api.ErrRange},
		{"a long price that is of no use", near, []api.Part{a, b, of(1, 1)}, 600, api.OK},
	} {
		m := model{t: c.task}
		bound := partOf(m.bound(ratsOf(c.prices)))
		if len(bound.Den) != c.digits || m.error() != c.e {
			t.Errorf("%s: the model's bound has %d digits, error %d", c.what, len(bound.Den), m.error())
		}
		if c.e != api.OK {
			bound = api.Part{}
		}
		p, e := effort.Bound(c.task, c.prices)
		is(t, c.what, p, e, bound, c.e)
	}
}

// P7.4: a value that is looked at has to fit; those after the first one that is greater are not looked at.
func TestImproveWhereValuesDoNotFit(t *testing.T) {
	sites, n := wideSites(7)
	less, _ := over(n)
	sites = append(append([]api.Site{finding(of(1, 1), of(1, 1))}, sites...), finding(less, of(1, 1)))
	task := task([]int{24}, of(1, 1), sites...)
	plan := [][]int{slices.Repeat([]int{1}, 24)} // at the first site two of three hours are of no use
	plan[0][0], plan[0][22], plan[0][23] = 3, 0, 0
	better := copyOfRows(plan)
	better[0][0], better[0][22] = 2, 1
	isImproved(t, "no round", task, plan, 0, plan, 0, api.OK)
	isImproved(t, "one round", task, plan, 1, better, 1, api.OK)
	isImproved(t, "two rounds", task, plan, 2, nil, 0, api.ErrRange)
	isImproved(t, "another round", task, better, 1, nil, 0, api.ErrRange)
	m := model{t: task}
	m.value(better)
	if _, moves := m.improve(plan, 1); m.wide || moves != 1 {
		t.Errorf("the model makes %d moves, error %d", moves, m.error())
	}
	if m.improve(plan, 2); !m.wide {
		t.Error("the model's values fit")
	}
}

// someOver returns a fraction below 1 whose denominator is n, or a divisor of it.
func someOver(random *rand.Rand, n *big.Int) api.Part {
	return partOf(new(big.Rat).SetFrac(new(big.Int).Rand(random, n), n))
}

// longSums returns a task and a plan whose values have about as many digits as fit: those of 22 sites.
func longSums(random *rand.Rand) (api.Effort, [][]int) {
	var sites []api.Site
	for n := range slices.Chunk(coprimes(slices.Repeat([]int{9, 18}, 24)...), 2) {
		sites = append(sites, finding(someOver(random, n[0]), someOver(random, n[1])))
	}
	t := task([]int{24, 1}, of(1, 1), sites...)
	plan, _ := nothing(t)
	plan[1][random.Intn(24)] = 1
	for site := range sites {
		plan[0][site] = 1
	}
	for range 1 + random.Intn(4) {
		site := random.Intn(24)
		plan[0][site], t.Rates[0][site] = 0, of(int64(random.Intn(2)), 1)
	}
	return t, plan
}

// P7.4
func TestImproveOfLongSums(t *testing.T) {
	random := rand.New(rand.NewSource(77))
	var done [5]int
	for range 40 {
		task, plan := longSums(random)
		rounds := 1 + random.Intn(3)
		m := model{t: task}
		want, moves := m.improve(plan, rounds)
		if m.wide {
			want, moves = nil, 0
		}
		isImproved(t, "Improve", task, plan, rounds, want, moves, m.error())
		done[m.error()]++
	}
	if min(done[api.OK], done[api.ErrRange]) < 5 {
		t.Errorf("only %v", done)
	}
}

// rich returns a task with so many teams that each have an hour, and two sites of their own. At the first one, where they have the rate that is told, more is found; but at the second one more coverage is worth more, so that it makes the price, which has about 53 digits.
func rich(teams int, rate api.Part) api.Effort {
	numbers := coprimes(slices.Repeat([]int{9, 18, 9, 18, 18, 8}, teams)...)
	one := big.NewInt(1)
	t := api.Effort{}
	for n := range slices.Chunk(numbers, 6) {
		_, weight := over(n[0])
		_, chance := over(n[1])
		_, otherWeight := over(n[2])
		half := partOf(new(big.Rat).SetFrac(new(big.Int).Rsh(n[3], 1), n[3]))
		cover := partOf(new(big.Rat).SetFrac(n[4], new(big.Int).Sub(n[4], one)))
		otherRate := partOf(new(big.Rat).Sub(big.NewRat(4, 1), new(big.Rat).SetFrac(one, n[5])))
		rates := row(2*teams, of(0, 1))
		rates[len(t.Sites)], rates[len(t.Sites)+1] = rate, otherRate
		t.Sites = append(t.Sites, finding(weight, chance), api.Site{Weight: otherWeight, Curve: curve(of(0, 1), of(0, 1), cover, half)})
		t.Hours, t.Rates = append(t.Hours, 1), append(t.Rates, rates)
	}
	return t
}

// P7.5: Value, Bound and Gap have to fit.
func TestSolveWhereFractionsDoNotFit(t *testing.T) {
	sites, n := wideSites(7)
	less, _ := over(n)
	sites = append(sites, finding(less, of(1, 1)))
	long := task([]int{23}, of(1, 1), sites...)
	for _, c := range []struct {
		what                  string
		task                  api.Effort
		value, bound, overall api.Errno
	}{
		{"all fit", rich(7, of(1, 1)), api.OK, api.OK, api.OK},
		{"the gap does not fit", rich(8, of(1, 1)), api.OK, api.OK, api.ErrRange},
		{"the bound does not fit", rich(8, part("999999937", "1")), api.OK, api.ErrRange, api.ErrRange},
		{"the value does not fit", long, api.ErrRange, api.ErrRange, api.ErrRange},
	} {
		m := model{t: c.task}
		plan := m.greedy()
		if m.value(plan); m.error() != c.value {
			t.Errorf("%s: the model's value has the error %d", c.what, m.error())
		}
		prices := m.prices(plan)
		if m.bound(prices); m.error() != c.bound {
			t.Errorf("%s: the model's bound has the error %d", c.what, m.error())
		}
		for _, rounds := range []int{0, 1} {
			m := model{t: c.task}
			want := m.solve(rounds)
			if m.error() != c.overall {
				t.Errorf("%s: the model's answer has the error %d", c.what, m.error())
			}
			if m.wide {
				want = api.Answer{}
			}
			answer, e := effort.Solve(c.task, rounds)
			isAnswer(t, c.what, answer, e, want, c.overall)
		}
	}
}
