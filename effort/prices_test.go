package effort_test

import (
	"math/big"
	"math/rand"
	"testing"

	"cresset/api"
	"cresset/effort"
)

// P7.2
func TestPrices(t *testing.T) {
	for _, c := range []struct {
		task api.Effort
		plan [][]int
		want []api.Part
	}{
		{example(), [][]int{{2, 0}}, []api.Part{of(1, 8)}},
		{example(), [][]int{{0, 0}}, []api.Part{of(1, 4)}},
		{example(), [][]int{{1, 1}}, []api.Part{of(1, 8)}},
		{example(), [][]int{{1, 0}}, []api.Part{of(1, 8)}},
		{mixed(), [][]int{{0, 0, 0}, {0, 0, 0}}, []api.Part{of(3, 1), of(3, 32)}},
		{mixed(), [][]int{{0, 1, 0}, {0, 0, 0}}, []api.Part{of(1, 12), of(1, 16)}},
		{mixed(), [][]int{{3, 1, 0}, {0, 0, 0}}, []api.Part{of(1, 24), of(1, 32)}},
		{mixed(), [][]int{{0, 1, 0}, {8, 0, 0}}, []api.Part{of(0, 1), of(0, 1)}}, // all is found that can be
		{task([]int{1, 1}, of(0, 1), example().Sites...), [][]int{{0, 0}, {0, 0}}, []api.Part{of(0, 1), of(0, 1)}},
	} {
		l, e := effort.Prices(c.task, c.plan)
		are(t, "Prices", l, e, c.want, api.OK)
	}
}

// P7.2
func TestBound(t *testing.T) {
	apart := task([]int{1, 1}, of(0, 1), example().Sites...) // a site for each team
	apart.Rates[0][0], apart.Rates[1][1] = of(1, 1), of(1, 1)
	for _, c := range []struct {
		what   string
		task   api.Effort
		prices []api.Part
		want   api.Part
	}{
		{"the prices of 2, 0", example(), []api.Part{of(1, 8)}, of(3, 8)},
		{"the price 0", example(), []api.Part{of(0, 1)}, of(9, 16)},
		{"the price 1", example(), []api.Part{of(1, 1)}, of(2, 1)},
		{"a price that leaves surplus at a site", example(), []api.Part{of(3, 16)}, of(7, 16)},
		{"the price of the first slope", example(), []api.Part{of(1, 4)}, of(1, 2)},
		{"a price that leaves surplus at the middle bend", example(), []api.Part{of(1, 10)}, of(2, 5)},
		{"a site where nobody can be", task([]int{2}, of(0, 1), example().Sites...), []api.Part{of(0, 1)}, of(0, 1)},
		{"a site where nobody can be, at a price", task([]int{2}, of(0, 1), example().Sites...), []api.Part{of(1, 3)}, of(2, 3)},
		{"a team without hours", sized(2, 1, 0), []api.Part{of(5, 1), of(1, 1<<20)}, of(1<<20-21, 1<<20)},
		{"teams that have their own sites", apart, []api.Part{of(1, 8), of(1, 16)}, of(3, 8)},
		{"teams that have their own sites, the other way round", apart, []api.Part{of(0, 1), of(1, 1)}, of(11, 8)},
		{"rates that make hours cheap", mixed(), []api.Part{of(1, 3), of(1, 2)}, of(27, 1)},
		{"the least quotient of the second team", mixed(), []api.Part{of(9, 1), of(1, 16)}, of(97, 2)},
	} {
		p, e := effort.Bound(c.task, c.prices)
		m := model{t: c.task}
		is(t, "the model's bound of "+c.what, partOf(m.bound(ratsOf(c.prices))), m.error(), c.want, api.OK)
		is(t, "Bound of "+c.what, p, e, c.want, api.OK)
	}
}

// P7.2
func TestBoundOfPricesThatAreNotValid(t *testing.T) {
	refuse := func(what string, task api.Effort, prices ...api.Part) {
		t.Helper()
		p, e := effort.Bound(task, prices)
		is(t, "Bound of "+what, p, e, api.Part{}, api.ErrArg)
	}
	refuse("no prices", mixed())
	refuse("a price too few", mixed(), of(1, 1))
	refuse("a price too many", mixed(), of(1, 1), of(1, 1), of(1, 1))
	refuse("very many prices", mixed(), make([]api.Part, 1<<20)...)
	for _, p := range []api.Part{
		{}, part("1", ""), part("", "1"), part("1", "0"), part("0", "2"), part("2", "4"), part("01", "2"), part("1", "02"), part("-1", "2"), part("1/2", "1"), part("a", "1"),
		part(ten(300), "1"), part("1", ten(300)), part(nines(301), ten(300)), part("1", nines(601)),
	} {
		refuse("a first price", mixed(), p, of(1, 1))
		refuse("a second price", mixed(), of(1, 1), p)
	}
	for _, p := range []api.Part{part(nines(300), "1"), part("1", nines(300)), part(ten(299), nines(300))} {
		m := model{t: mixed()}
		want := partOf(m.bound([]*big.Rat{big.NewRat(1, 1), ratOf(p)}))
		got, e := effort.Bound(mixed(), []api.Part{of(1, 1), p})
		is(t, "Bound of long prices", got, e, want, m.error())
		if m.wide {
			t.Errorf("the bound of %v does not fit", p)
		}
	}
}

// somePrices returns prices for the teams of a task: any, or those that are worth something.
func somePrices(random *rand.Rand, t api.Effort) []api.Part {
	if plan := somePlan(random, t); random.Intn(3) == 0 {
		m := model{t: t}
		return partsOf(m.prices(plan))
	}
	var prices []api.Part
	for range t.Hours {
		prices = append(prices, somePart(random, []int64{1, 12, 999999999}[random.Intn(3)]))
	}
	return prices
}

// P7.2
func TestPricesOfSome(t *testing.T) {
	random := rand.New(rand.NewSource(72))
	for i := range 1500 {
		task := someTask(random, i%3, 8, 8, 10)
		plan := somePlan(random, task)
		m := model{t: task}
		l, e := effort.Prices(task, plan)
		are(t, "Prices", l, e, partsOf(m.prices(plan)), api.OK)
		prices := somePrices(random, task)
		bound := partOf(m.bound(ratsOf(prices)))
		p, e := effort.Bound(task, prices)
		if m.wide {
			is(t, "Bound that does not fit", p, e, api.Part{}, api.ErrRange)
		} else {
			is(t, "Bound", p, e, bound, api.OK)
		}
	}
}
