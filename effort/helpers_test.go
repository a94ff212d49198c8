package effort_test

import (
	"math/big"
	"math/rand"
	"slices"
	"strings"
	"testing"

	"cresset/api"
	"cresset/detect"
	"cresset/effort"
)

func part(num, den string) api.Part {
	return api.Part{Num: api.Nat(num), Den: api.Nat(den)}
}

func of(a, b int64) api.Part {
	return partOf(big.NewRat(a, b))
}

func partOf(r *big.Rat) api.Part {
	return part(r.Num().String(), r.Denom().String())
}

func partsOf(l []*big.Rat) []api.Part {
	var parts []api.Part
	for _, r := range l {
		parts = append(parts, partOf(r))
	}
	return parts
}

// ratOf returns the number of a valid fraction.
func ratOf(p api.Part) *big.Rat {
	r, ok := new(big.Rat).SetString(string(p.Num) + "/" + string(p.Den))
	if !ok || partOf(r) != p {
		panic("no valid fraction: " + string(p.Num) + "/" + string(p.Den))
	}
	return r
}

func ratsOf(l []api.Part) []*big.Rat {
	var rats []*big.Rat
	for _, p := range l {
		rats = append(rats, ratOf(p))
	}
	return rats
}

// nines returns so many times the digit 9.
func nines(digits int) string {
	return strings.Repeat("9", digits)
}

// ten returns the digits of a power of ten.
func ten(zeros int) string {
	return "1" + strings.Repeat("0", zeros)
}

// plus returns the digits of a number and n.
func plus(digits string, n int64) string {
	sum, _ := new(big.Int).SetString(digits, 10)
	return sum.Add(sum, big.NewInt(n)).String()
}

// coprimes returns a number for each number of digits: the greatest odd one that has no common divisor with those before.
func coprimes(digits ...int) []*big.Int {
	var found []*big.Int
	for _, n := range digits {
		next, _ := new(big.Int).SetString(nines(n), 10)
		isWrong := func(before *big.Int) bool { return new(big.Int).GCD(nil, nil, before, next).BitLen() > 1 }
		for slices.ContainsFunc(found, isWrong) {
			next.Sub(next, big.NewInt(2))
		}
		found = append(found, next)
	}
	return found
}

// curve returns the bends whose coverage and chance come by turns.
func curve(numbers ...api.Part) []api.Bend {
	var l []api.Bend
	for pair := range slices.Chunk(numbers, 2) {
		l = append(l, api.Bend{Cover: pair[0], Chance: pair[1]})
	}
	return l
}

// straight returns a curve on which a coverage up to 1 has a chance that rises to a last one.
func straight(last api.Part) []api.Bend {
	return curve(of(0, 1), of(0, 1), of(1, 1), last)
}

// halving returns the curve of Halving.
func halving(n int) []api.Bend {
	l, e := detect.Halving(n)
	if e != api.OK {
		panic(e)
	}
	return l
}

// row returns so many equal fractions.
func row(n int, p api.Part) []api.Part {
	return slices.Repeat([]api.Part{p}, n)
}

// task returns a task of teams with hours and a rate that is the same everywhere.
func task(hours []int, rate api.Part, sites ...api.Site) api.Effort {
	t := api.Effort{Sites: sites, Hours: hours}
	for range hours {
		t.Rates = append(t.Rates, row(len(sites), rate))
	}
	return t
}

// example returns the chapter's task.
func example() api.Effort {
	return task([]int{2}, of(1, 1), api.Site{Weight: of(1, 2), Curve: halving(2)}, api.Site{Weight: of(1, 4), Curve: halving(2)})
}

// sized returns a valid task of so many teams, with so many hours each, and so many sites.
func sized(teams, sites, hours int) api.Effort {
	site := api.Site{Weight: of(1, int64(max(1, sites))), Curve: halving(40)}
	return task(slices.Repeat([]int{hours}, teams), of(1, 1), slices.Repeat([]api.Site{site}, sites)...)
}

// copyOf returns a copy that shares no memory with t.
func copyOf(t api.Effort) api.Effort {
	c := api.Effort{Sites: slices.Clone(t.Sites), Hours: slices.Clone(t.Hours), Rates: copyOfRows(t.Rates)}
	for i := range c.Sites {
		c.Sites[i].Curve = slices.Clone(c.Sites[i].Curve)
	}
	return c
}

func copyOfRows[T any](l [][]T) [][]T {
	var c [][]T
	for _, row := range l {
		c = append(c, slices.Clone(row))
	}
	return c
}

func sameRows(a, b [][]int) bool {
	return slices.EqualFunc(a, b, slices.Equal[[]int])
}

// nothing returns the plan of zeros, and the prices of 0, whatever the task is.
func nothing(t api.Effort) (plan [][]int, prices []api.Part) {
	for range t.Hours {
		plan, prices = append(plan, make([]int, len(t.Sites))), append(prices, of(0, 1))
	}
	return plan, prices
}

// somePlan returns a valid plan.
func somePlan(random *rand.Rand, t api.Effort) [][]int {
	plan, _ := nothing(t)
	for team, left := range t.Hours {
		for range random.Intn(2 * (left + 1)) {
			site := random.Intn(len(t.Sites))
			if left > 0 && t.Rates[team][site] != of(0, 1) {
				plan[team][site]++
				left--
			}
		}
	}
	return plan
}

// somePart returns a fraction whose numbers are at most so great, and which may be 0.
func somePart(random *rand.Rand, most int64) api.Part {
	return of(random.Int63n(most+1), 1+random.Int63n(most))
}

// someCurve returns a valid curve with up to so many bends, whose numbers are at most so great; it may be flat at its end, and it may have bends on a line.
func someCurve(random *rand.Rand, bends int, most int64) []api.Bend {
	slopes := make([]int64, 1+random.Intn(bends-1))
	for i := range slopes {
		slopes[i] = random.Int63n(most)
	}
	slices.Sort(slopes)
	slices.Reverse(slopes)
	l := curve(of(0, 1), of(0, 1))
	scale, all := 1+random.Int63n(most), int64(0)
	var cover int64
	var chances []int64
	for _, s := range slopes {
		wide := 1 + random.Int63n(most)
		cover, all = cover+wide, all+wide*s
		chances = append(chances, all)
		l = append(l, api.Bend{Cover: of(cover, scale)})
	}
	all += 1 + random.Int63n(all+1)
	for i, chance := range chances {
		l[i+1].Chance = of(chance, all)
	}
	return l
}

// someTask returns a valid task with at most so many teams, sites and hours of a team. One kind has few different numbers, so that many gains are equal, another one has any, the third one long numbers.
func someTask(random *rand.Rand, kind, teams, sites, hours int) api.Effort {
	t := api.Effort{}
	few := []api.Part{of(0, 1), of(1, 1), of(1, 1), of(2, 1), of(1, 2), of(1, 4)}
	most := []int64{0, 12, 999999999}[kind]
	number := func() api.Part {
		if kind == 0 || random.Intn(6) == 0 {
			return few[random.Intn(len(few))]
		}
		return somePart(random, most)
	}
	for range 1 + random.Intn(sites) {
		l := halving(1 + random.Intn(4))
		if kind > 0 {
			l = someCurve(random, 6, min(most, 9999))
		}
		t.Sites = append(t.Sites, api.Site{Weight: number(), Curve: l})
	}
	for range 1 + random.Intn(teams) {
		t.Hours = append(t.Hours, random.Intn(hours+1))
		t.Rates = append(t.Rates, nil)
		for range t.Sites {
			team := len(t.Rates) - 1
			t.Rates[team] = append(t.Rates[team], number())
		}
	}
	return t
}

// is checks a fraction and an error.
func is(t *testing.T, what string, got api.Part, e api.Errno, want api.Part, wantError api.Errno) {
	t.Helper()
	if got != want || e != wantError {
		t.Errorf("%s: %.80q, error %d; want %.80q, error %d", what, got, e, want, wantError)
	}
}

// are checks fractions and an error.
func are(t *testing.T, what string, got []api.Part, e api.Errno, want []api.Part, wantError api.Errno) {
	t.Helper()
	if !slices.Equal(got, want) || e != wantError {
		t.Errorf("%s: %.80q, error %d; want %.80q, error %d", what, got, e, want, wantError)
	}
}

// isPlan checks a plan and an error.
func isPlan(t *testing.T, what string, got [][]int, e api.Errno, want [][]int, wantError api.Errno) {
	t.Helper()
	if !sameRows(got, want) || e != wantError {
		t.Errorf("%s: %v, error %d; want %v, error %d", what, got, e, want, wantError)
	}
}

// isAnswer checks an answer and an error.
func isAnswer(t *testing.T, what string, got api.Answer, e api.Errno, want api.Answer, wantError api.Errno) {
	t.Helper()
	isPlan(t, what+": Plan", got.Plan, e, want.Plan, wantError)
	is(t, what+": Value", got.Value, e, want.Value, wantError)
	are(t, what+": Prices", got.Prices, e, want.Prices, wantError)
	is(t, what+": Bound", got.Bound, e, want.Bound, wantError)
	is(t, what+": Gap", got.Gap, e, want.Gap, wantError)
}

// must returns the value of a plan that has one.
func must(t *testing.T, task api.Effort, plan [][]int) *big.Rat {
	t.Helper()
	p, e := effort.Value(task, plan)
	if e != api.OK {
		t.Fatalf("Value has the error %d", e)
	}
	return ratOf(p)
}
