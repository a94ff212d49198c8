package belief_test

import (
	"fmt"
	"math/big"
	"math/rand"
	"slices"
	"strings"
	"testing"

	"cresset/api"
	"cresset/belief"
)

const (
	huge  = 1<<63 - 1
	small = -1 << 63
)

// outside are numbers that are not from least to most.
func outside(least, most int) []int {
	return []int{least - 1, most + 1, least - 1000, most + 1000, -1 << 40, 1 << 40, 1 << 62, small, huge}
}

func part(num, den string) api.Part {
	return api.Part{Num: api.Nat(num), Den: api.Nat(den)}
}

func of(a, b int64) api.Part {
	return partOf(big.NewRat(a, b))
}

func partOf(r *big.Rat) api.Part {
	return part(r.Num().String(), r.Denom().String())
}

// ratOf returns the number of a valid fraction.
func ratOf(p api.Part) *big.Rat {
	r, ok := new(big.Rat).SetString(string(p.Num) + "/" + string(p.Den))
	if !ok || partOf(r) != p {
		panic("no valid fraction: " + string(p.Num) + "/" + string(p.Den))
	}
	return r
}

// nines returns so many times the digit 9.
func nines(digits int) string {
	return strings.Repeat("9", digits)
}

// ten returns the digits of a power of ten.
func ten(zeros int) string {
	return "1" + strings.Repeat("0", zeros)
}

// coprimes returns a number for each number of digits: the greatest odd one that has no common divisor with those before.
func coprimes(digits ...int) []*big.Int {
	var found []*big.Int
	for _, n := range digits {
		next, _ := new(big.Int).SetString(nines(n), 10)
		isWrong := func(before *big.Int) bool { return new(big.Int).GCD(nil, nil, before, next).BitLen() > 1 }
		for slices.ContainsFunc(found, isWrong) {
			next.Sub(next, big.NewInt(2))
		}
		found = append(found, next)
	}
	return found
}

// over returns 1 / n, and 1 - 1 / n.
func over(n *big.Int) (less, more api.Part) {
	r := new(big.Rat).SetFrac(big.NewInt(1), n)
	return partOf(r), partOf(new(big.Rat).Sub(big.NewRat(1, 1), r))
}

// longest returns the greatest number of digits of masses.
func longest(l []api.Mass) int {
	most := 0
	for _, m := range l {
		most = max(most, len(m.Weight.Num), len(m.Weight.Den))
	}
	return most
}

func at(x, y int) api.Cell {
	return api.Cell{X: x, Y: y}
}

// away is how the chapter writes what is gone.
var away = at(-1, -1)

func run(y, from, to int) api.Run {
	return api.Run{Y: y, From: from, To: to}
}

func mass(scene, x, y int, weight api.Part) api.Mass {
	return api.Mass{Scene: scene, Cell: at(x, y), Weight: weight}
}

func start(x, y int, weight api.Part) api.Share {
	return api.Share{Cell: at(x, y), Weight: weight}
}

func stride(dx, dy int, chance api.Part) api.Stride {
	return api.Stride{DX: dx, DY: dy, Chance: chance}
}

// stays is the strides of what does not move.
func stays() []api.Stride {
	return []api.Stride{stride(0, 0, of(1, 1))}
}

// leaves is the strides of what is gone after a step, from each cell of a grid that has at most 8 columns.
func leaves() []api.Stride {
	return []api.Stride{stride(8, 0, of(1, 1))}
}

func scene(weight api.Part, strides []api.Stride, starts ...api.Share) api.Scene {
	return api.Scene{Weight: weight, Start: starts, Strides: strides}
}

// sea returns a belief in a sea without land.
func sea(w, h int, scenes ...api.Scene) api.Belief {
	return api.Belief{Sea: api.Grid{W: w, H: h, Size: 100}, Scenes: scenes}
}

// example returns the chapter's belief.
func example() api.Belief {
	return sea(3, 1, scene(of(1, 1), []api.Stride{stride(0, 0, of(1, 2)), stride(1, 0, of(1, 2))}, start(0, 0, of(1, 1))))
}

// notice returns a notice of all scenes.
func notice(time int, in, out api.Part, where ...api.Run) api.Notice {
	return api.Notice{Time: time, Of: 255, Where: where, In: in, Out: out}
}

// equal returns a list of n equal masses with the sum 1, at the first places of a sea of one scene: the first one is what is gone.
func equal(b api.Belief, n int) []api.Mass {
	l := []api.Mass{{Cell: away, Weight: of(1, int64(n))}}
	for i := range n - 1 {
		l = append(l, mass(0, i%b.Sea.W, i/b.Sea.W, of(1, int64(n))))
	}
	return l[:n]
}

// copyOf returns a copy that shares no memory with b.
func copyOf(b api.Belief) api.Belief {
	b.Sea.Land = slices.Clone(b.Sea.Land)
	b.Scenes = slices.Clone(b.Scenes)
	for i := range b.Scenes {
		b.Scenes[i].Start = slices.Clone(b.Scenes[i].Start)
		b.Scenes[i].Strides = slices.Clone(b.Scenes[i].Strides)
	}
	return b
}

func copyOfNotices(l []api.Notice) []api.Notice {
	l = slices.Clone(l)
	for i := range l {
		l[i].Where = slices.Clone(l[i].Where)
	}
	return l
}

// somePart returns a fraction whose numbers are at most so great, and which may be 0.
func somePart(random *rand.Rand, most int64) api.Part {
	return of(random.Int63n(most+1), 1+random.Int63n(most))
}

// somePositive returns a fraction above 0 whose numbers are at most so great.
func somePositive(random *rand.Rand, most int64) api.Part {
	return of(1+random.Int63n(most), 1+random.Int63n(most))
}

// someChance returns a fraction of at most 1 whose numbers are at most so great; 0 and 1 come often.
func someChance(random *rand.Rand, most int64) api.Part {
	if random.Intn(3) == 0 {
		return of(int64(random.Intn(2)), 1)
	}
	n := 1 + random.Int63n(most)
	return of(random.Int63n(n+1), n)
}

// someRegion returns any cells of a sea.
func someRegion(random *rand.Rand, g api.Grid) []api.Run {
	var l []api.Run
	for y := range g.H {
		for x := range g.W {
			if random.Intn(3) > 0 {
				continue
			}
			if last := len(l) - 1; last >= 0 && l[last].Y == y && l[last].To == x {
				l[last].To++
			} else {
				l = append(l, run(y, x, x+1))
			}
		}
	}
	return l
}

// someChances returns n chances with the sum 1, of which some may be 0, and whose numbers are at most so great.
func someChances(random *rand.Rand, n int, most int64) []api.Part {
	cuts := []int64{0, 1 + random.Int63n(most)}
	for range n - 1 {
		cuts = append(cuts, random.Int63n(cuts[1]+1))
	}
	slices.Sort(cuts)
	var l []api.Part
	for i := range n {
		l = append(l, of(cuts[i+1]-cuts[i], cuts[n]))
	}
	return l
}

// someScene returns a scene with at most so many starts and strides, and numbers of at most so great.
func someScene(random *rand.Rand, g api.Grid, starts, strides int, most int64) api.Scene {
	s := api.Scene{Weight: somePart(random, most)}
	for _, n := range random.Perm(g.W * g.H)[:1+random.Intn(min(starts, g.W*g.H))] {
		s.Start = append(s.Start, start(n%g.W, n/g.W, somePart(random, most)))
	}
	s.Start[0].Weight = somePositive(random, most)
	moves := random.Perm(25)[:1+random.Intn(strides)]
	for i, chance := range someChances(random, len(moves), most) {
		s.Strides = append(s.Strides, stride(moves[i]%5-2, moves[i]/5-2, chance))
	}
	return s
}

// someBelief returns a valid belief in a small sea, with numbers of at most so great.
func someBelief(random *rand.Rand, most int64) api.Belief {
	b := sea(1+random.Intn(4), 1+random.Intn(4))
	if random.Intn(2) == 0 {
		b.Sea.Land = someRegion(random, b.Sea)
	}
	for range 1 + random.Intn(3) {
		b.Scenes = append(b.Scenes, someScene(random, b.Sea, 4, 4, most))
	}
	b.Scenes[random.Intn(len(b.Scenes))].Weight = somePositive(random, most)
	return b
}

// someNotice returns a notice that is valid for a belief.
func someNotice(random *rand.Rand, b api.Belief, steps int, most int64) api.Notice {
	n := notice(random.Intn(steps+1), someChance(random, most), someChance(random, most), someRegion(random, b.Sea)...)
	if random.Intn(2) == 0 {
		n.Of = random.Intn(256)
	}
	return n
}

// someStory returns a belief, notices for it, and steps.
func someStory(random *rand.Rand, most int64) (api.Belief, []api.Notice, int) {
	b, steps := someBelief(random, most), random.Intn(5)
	var notices []api.Notice
	for range random.Intn(6) {
		notices = append(notices, someNotice(random, b, steps, most))
	}
	return b, notices, steps
}

// someMasses returns masses that are valid for a belief.
func someMasses(random *rand.Rand, b api.Belief, most int64) []api.Mass {
	var l []api.Mass
	for p := range places(b) {
		if random.Intn(2) == 0 {
			l = append(l, api.Mass{Scene: p.scene, Cell: p.cell, Weight: somePositive(random, most)})
		}
	}
	return l
}

// brief returns a value as a text that is not too long.
func brief(x any) string {
	s := fmt.Sprint(x)
	return s[:min(len(s), 300)]
}

// are checks masses and an error.
func are(t *testing.T, what string, got []api.Mass, e api.Errno, want []api.Mass, wantError api.Errno) {
	t.Helper()
	if !slices.Equal(got, want) || e != wantError {
		t.Errorf("%s: %s, error %d; want %s, error %d", what, brief(got), e, brief(want), wantError)
	}
}

// is checks a fraction and an error.
func is(t *testing.T, what string, got api.Part, e api.Errno, want api.Part, wantError api.Errno) {
	t.Helper()
	if got != want || e != wantError {
		t.Errorf("%s: %.80q, error %d; want %.80q, error %d", what, got, e, want, wantError)
	}
}

// areRuns checks a region and an error.
func areRuns(t *testing.T, what string, got []api.Run, e api.Errno, want []api.Run, wantError api.Errno) {
	t.Helper()
	if !slices.Equal(got, want) || e != wantError {
		t.Errorf("%s: %v, error %d; want %v, error %d", what, got, e, want, wantError)
	}
}

// areTimes checks the masses of all times, and an error.
func areTimes(t *testing.T, what string, got [][]api.Mass, e api.Errno, want [][]api.Mass, wantError api.Errno) {
	t.Helper()
	if !slices.EqualFunc(got, want, slices.Equal[[]api.Mass]) || e != wantError {
		t.Errorf("%s: %s, error %d; want %s, error %d", what, brief(got), e, brief(want), wantError)
	}
}

// isFilter checks what Filter returns.
func isFilter(t *testing.T, what string, b api.Belief, notices []api.Notice, steps int, want []api.Mass, wantLeft api.Part, wantError api.Errno) {
	t.Helper()
	l, left, e := belief.Filter(b, notices, steps)
	are(t, what+": Filter", l, e, want, wantError)
	is(t, what+": what is left", left, e, wantLeft, wantError)
}

// isLearn checks what Learn returns.
func isLearn(t *testing.T, what string, b api.Belief, l []api.Mass, n api.Notice, want []api.Mass, wantEvidence api.Part, wantError api.Errno) {
	t.Helper()
	after, evidence, e := belief.Learn(b, l, n)
	are(t, what+": Learn", after, e, want, wantError)
	is(t, what+": the evidence", evidence, e, wantEvidence, wantError)
}
