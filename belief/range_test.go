package belief_test

import (
	"math/big"
	"math/rand"
	"slices"
	"testing"

	"cresset/api"
	"cresset/belief"
)

// longStart returns a belief of two scenes, with the weights 1 and m - 1. The first one begins in 34 cells, with shares that have 299 digits, so that its masses have more, the greater m is.
func longStart(m int64, strides []api.Stride) api.Belief {
	first := scene(of(1, 1), strides)
	for i, n := range coprimes(slices.Repeat([]int{9}, 34)...) {
		less, _ := over(n)
		first.Start = append(first.Start, start(i%8, i/8, less))
	}
	return sea(8, 5, first, scene(of(m-1, 1), strides, start(0, 0, of(1, 1))))
}

// P12.1: a weight of masses has at most MaxDeep digits.
func TestBeginOfLongWeights(t *testing.T) {
	for _, c := range []struct {
		m      int64
		digits int
		want   api.Errno
	}{{2, 299, api.OK}, {16, 300, api.OK}, {32, 301, api.ErrRange}, {1024, 302, api.ErrRange}} {
		b := longStart(c.m, stays())
		all := new(big.Rat)
		for _, s := range b.Scenes[0].Start {
			all.Add(all, ratOf(s.Weight))
		}
		all.Mul(all, big.NewRat(c.m, 1))
		for _, s := range b.Scenes[0].Start {
			if mass := partOf(new(big.Rat).Quo(ratOf(s.Weight), all)); len(mass.Den) != c.digits {
				t.Fatalf("a mass for %d has %d digits", c.m, len(mass.Den))
			}
		}
		l, e := belief.Begin(b)
		if e != c.want || e == api.OK && longest(l) != c.digits || e != api.OK && len(l) > 0 {
			t.Errorf("Begin for %d: %d digits, error %d", c.m, longest(l), e)
		}
		if e != api.OK {
			refusesStory(t, "Begin does not fit", b, []api.Notice{{Of: 1, In: of(0, 1), Out: of(0, 1)}}, 0, c.want) // all that is long would be ruled out
		}
		if got := compareStory(t, b, nil, 0); got != c.want {
			t.Errorf("Filter for %d: error %d", c.m, got)
		}
	}
}

// cancelling returns 1 / n and 1 - 1 / n for numbers of so many digits each, without divisors in common. In pairs their sums are short; if all 1 / n come first, they are as long as all numbers together.
func cancelling(pairs bool, digits ...int) []api.Part {
	var first, last []api.Part
	for _, n := range coprimes(digits...) {
		less, more := over(n)
		if pairs {
			first = append(first, less, more)
		} else {
			first, last = append(first, less), append(last, more)
		}
	}
	return append(first, last...)
}

// P12.1: the sum of a Share has to fit at each step on its way.
func TestBeginOfLongSums(t *testing.T) {
	for _, c := range []struct {
		pairs bool
		n     int
		want  api.Errno
	}{{false, 66, api.OK}, {false, 67, api.ErrRange}, {true, 67, api.OK}} {
		s := scene(of(1, 1), stays())
		for i, w := range cancelling(c.pairs, slices.Repeat([]int{9}, c.n)...) {
			s.Start = append(s.Start, start(i%20, i/20, w))
		}
		for _, b := range []api.Belief{sea(20, 20, s), sea(20, 20, scene(of(1, 1), stays(), start(0, 0, of(1, 1))), scene(of(0, 1), s.Strides, s.Start...))} {
			if l, e := belief.Begin(b); e != c.want || (len(l) > 0) != (e == api.OK) {
				t.Errorf("%d pairs, %v: %d masses, error %d", c.n, c.pairs, len(l), e)
			}
			if e := compareStory(t, b, nil, 0); e != c.want {
				t.Errorf("%d pairs, %v: Filter has the error %d", c.n, c.pairs, e)
			}
		}
	}
}

// longSums are weights, and whether their sums fit, one after another.
func longSums() map[api.Errno][][]api.Part {
	return map[api.Errno][][]api.Part{
		api.OK:       {cancelling(false, 299, 299), cancelling(false, 299, 299, 2), cancelling(true, 299, 299, 299), cancelling(true, 299, 299, 3)},
		api.ErrRange: {cancelling(false, 299, 299, 3), cancelling(false, 299, 299, 299), cancelling(false, 3, 299, 299)},
	}
}

// P12.2, P12.3, P12.6: a sum has to fit at each step on its way.
func TestLongSums(t *testing.T) {
	gone := sea(8, 1, scene(of(1, 1), leaves(), start(0, 0, of(1, 1))))
	many := sea(8, 1, slices.Repeat(gone.Scenes, 8)...)
	certain := notice(0, of(1, 1), of(1, 1))
	for want, lists := range longSums() {
		for _, weights := range lists {
			var cells, scenes []api.Mass
			for i, w := range weights {
				cells, scenes = append(cells, mass(0, i, 0, w)), append(scenes, mass(i, 3, 0, w))
			}
			all := of(int64(len(weights)/2), 1)
			l, e := belief.Predict(gone, cells)
			_, evidence, learnError := belief.Learn(gone, cells, certain)
			sums, scenesError := belief.Scenes(gone, cells)
			shares, cellsError := belief.Cells(many, scenes)
			region, likelyError := belief.Likely(many, scenes, all)
			if want == api.OK {
				are(t, "Predict", l, e, []api.Mass{mass(0, -1, -1, all)}, want)
				is(t, "Learn", evidence, learnError, all, want)
				is(t, "Scenes", sums[0], scenesError, all, want)
				is(t, "Cells", shares[0].Weight, cellsError, all, want)
				areRuns(t, "Likely", region, likelyError, []api.Run{run(0, 3, 4)}, want)
			} else if len(l)+len(sums)+len(shares)+len(region) > 0 || evidence != (api.Part{}) || e != want || learnError != want || scenesError != want || cellsError != want || likelyError != want {
				t.Errorf("errors %d, %d, %d, %d, %d", e, learnError, scenesError, cellsError, likelyError)
			}
			compareMasses(t, gone, cells, certain, of(1, 1))
			compareMasses(t, many, scenes, certain, of(1, 1))
		}
	}
}

// P12.6: only the sums of the cells that are looked at have to fit; the greatest ones come first.
func TestLikelyOfLongWeights(t *testing.T) {
	b := sea(8, 1, scene(of(1, 1), stays(), start(0, 0, of(1, 1))))
	for _, pairs := range []bool{false, true} {
		var l []api.Mass
		for i, w := range cancelling(pairs, 250, 300, 270) {
			l = append(l, mass(0, i, 0, w))
		}
		near := []api.Run{run(0, 4, 6)} // 1 - 1 / n for the two greatest n
		if pairs {
			near = []api.Run{run(0, 3, 4), run(0, 5, 6)}
		}
		for _, c := range []struct {
			p    api.Part
			want []api.Run
			e    api.Errno
		}{{of(0, 1), nil, api.OK}, {of(1, 1), near, api.OK}, {of(19, 10), near, api.OK}, {of(2, 1), nil, api.ErrRange}, {of(3, 1), nil, api.ErrRange}, {of(4, 1), nil, api.ErrRange}} {
			region, e := belief.Likely(b, l, c.p)
			areRuns(t, "Likely for "+string(c.p.Num), region, e, c.want, c.e)
			compareMasses(t, b, l, notice(0, of(1, 2), of(1, 1)), c.p)
		}
	}
}

// P12.6: sums of cells are no masses, so they may have up to MaxDigits digits, also that of what is gone.
func TestLongCells(t *testing.T) {
	b := sea(8, 1, slices.Repeat([]api.Scene{scene(of(1, 1), stays(), start(0, 0, of(1, 1)))}, 3)...)
	for _, x := range []int{-1, 3} {
		for digits, want := range map[int]api.Errno{300: api.OK, 301: api.ErrRange} {
			var l []api.Mass
			for i, w := range cancelling(false, 300, digits-1, 1)[:3] {
				l = append(l, mass(i, x, min(x, 0), w))
			}
			cells, e := belief.Cells(b, l)
			if e != want || (len(cells) == 1) != (e == api.OK) || e == api.OK && len(cells[0].Weight.Den) != 600 {
				t.Errorf("Cells with %d digits: %s, error %d", 300+digits, brief(cells), e)
			}
			for p, whole := range map[api.Part]api.Errno{of(0, 1): api.OK, of(1, 9): map[int]api.Errno{-1: api.ErrNone, 3: api.OK}[x]} {
				_, e := belief.Likely(b, l, p)
				if want != api.OK {
					whole = want
				}
				if e != whole {
					t.Errorf("Likely with %d digits: error %d, not %d", 300+digits, e, whole)
				}
			}
			compareMasses(t, b, l, notice(0, of(1, 2), of(1, 1)), of(0, 1))
		}
	}
}

// P12.2, P12.3: a weight of masses that are returned has at most MaxDeep digits.
func TestLongMasses(t *testing.T) {
	b := sea(8, 1, scene(of(1, 1), []api.Stride{stride(0, 0, of(1, 2)), stride(1, 0, of(1, 2))}, start(0, 0, of(1, 1))))
	for digits, want := range map[int]api.Errno{299: api.OK, 300: api.ErrRange} {
		n := coprimes(digits, 299)
		first, _ := over(n[0])
		second, _ := over(n[1])
		for _, l := range [][]api.Mass{{mass(0, 0, 0, first), mass(0, 5, 0, of(1, 1))}, {mass(0, 0, 0, of(1, 1)), mass(0, 7, 0, first)}} {
			after, e := belief.Predict(b, l)
			if e != want || e == api.OK && longest(after) != 300 || e != api.OK && len(after) > 0 {
				t.Errorf("Predict of %d digits: %d digits, error %d", digits, longest(after), e)
			}
			compareMasses(t, b, l, notice(0, of(1, 2), of(1, 1)), of(1, 1))
		}
		l := []api.Mass{mass(0, 0, 0, first), mass(0, 1, 0, second)}
		after, evidence, e := belief.Learn(b, l, notice(0, of(1, 1), of(1, 1)))
		if e != want || e == api.OK && (longest(after) != 300 || len(evidence.Den) < 597) || e != api.OK && (len(after) > 0 || evidence != api.Part{}) {
			t.Errorf("Learn of %d digits: %d digits, the evidence has %d, error %d", digits, longest(after), len(evidence.Den), e)
		}
		compareMasses(t, b, l, notice(0, of(1, 1), of(1, 1)), of(1, 1))
	}
}

// P12.4: masses have to fit at each step, even if a notice would make them short again.
func TestFilterOfLongMasses(t *testing.T) {
	b := longStart(16, []api.Stride{stride(0, 0, of(1, 2)), stride(1, 0, of(1, 2))})
	only := notice(1, of(1, 1), of(0, 1), run(0, 0, 1))
	refusesStory(t, "Predict does not fit", b, []api.Notice{only}, 1, api.ErrRange)
	refusesStory(t, "Predict does not fit, ahead of a notice that cannot be", b, []api.Notice{notice(2, of(0, 1), of(0, 1))}, 2, api.ErrRange)
	refusesStory(t, "Predict would not fit behind a notice that cannot be", b, []api.Notice{notice(0, of(0, 1), of(0, 1))}, 2, api.ErrNone)
	only.Time = 0
	for _, steps := range []int{0, 1, 2} {
		if e := compareStory(t, b, []api.Notice{only}, steps); e != api.OK {
			t.Errorf("short masses, %d steps: error %d", steps, e)
		}
	}
	if e := compareStory(t, b, nil, 1); e != api.ErrRange {
		t.Errorf("long masses: error %d", e)
	}
}

// uninformative returns notices at a time that are just as likely everywhere: 1 / n for numbers without divisors in common.
func uninformative(time int, digits ...int) []api.Notice {
	var l []api.Notice
	for _, n := range coprimes(digits...) {
		less, _ := over(n)
		l = append(l, notice(time, less, less))
	}
	return l
}

// P12.4: what is left has to fit, from notice to notice.
func TestFilterWhereLeftDoesNotFit(t *testing.T) {
	var starts []api.Share
	for i, n := range coprimes(9, 9, 9, 9, 9) {
		less, _ := over(n)
		starts = append(starts, start(i, 0, less))
	}
	b := sea(5, 1, scene(of(1, 1), stays(), starts...))
	telling, never := notice(0, of(1, 999999937), of(1, 1), run(0, 0, 1)), notice(2, of(0, 1), of(0, 1))
	for _, c := range []struct {
		last, digits int
		want         api.Errno
	}{{5, 600, api.OK}, {6, 601, api.ErrRange}} {
		l := append(uninformative(1, append(slices.Repeat([]int{9}, 61), c.last)...), telling)
		_, left, e := belief.Filter(b, l[62:], 2)
		exact := ratOf(left)
		for _, n := range l[:62] {
			exact.Mul(exact, ratOf(n.In))
		}
		if digits := len(partOf(exact).Den); digits != c.digits || e != api.OK {
			t.Errorf("left would have %d digits, error %d", digits, e)
		}
		if e := compareStory(t, b, l, 2); e != c.want {
			t.Errorf("%d digits: error %d", c.digits, e)
		}
		if c.want != api.OK {
			refusesStory(t, "left does not fit", b, append(l, never), 2, c.want)
		}
	}
}

// P12.5: smoothed masses have at most MaxDeep digits, too. At 1 all is gone, and two weights are left; a notice makes the first scene less likely.
func TestSmoothOfLongMasses(t *testing.T) {
	b := longStart(2, leaves())
	for _, c := range []struct {
		n    int64
		want api.Errno
	}{{15, api.OK}, {31, api.ErrRange}} {
		l := []api.Notice{{Time: 1, Of: 1, In: of(0, 1), Out: of(1, c.n)}}
		isFilter(t, "all is gone", b, l, 1, []api.Mass{mass(0, -1, -1, of(1, c.n+1)), mass(1, -1, -1, of(c.n, c.n+1))}, of(c.n+1, 2*c.n), api.OK)
		times, e := belief.Smooth(b, l, 1)
		if e != c.want || e == api.OK && longest(times[0]) != 300 || e != api.OK && len(times) > 0 {
			t.Errorf("Smooth with 1/%d: %d times, error %d", c.n, len(times), e)
		}
		compareStory(t, b, l, 1)
	}
}

// far returns a belief that begins in (0, 0), never comes to (1, 0), but could by a stride of the chance 0, and does not stay in either for long.
func far() api.Belief {
	p := int64(999999937)
	strides := []api.Stride{stride(0, 0, of(1, p)), stride(1, 0, of(0, 1)), stride(0, 1, of(p-1, p))}
	return sea(2, 2, scene(of(1, 1), strides, start(0, 0, of(1, 1))))
}

// inFar returns notices at a time that are less likely in (1, 0): 1 / n for numbers without divisors in common.
func inFar(time, n int) []api.Notice {
	l := uninformative(time, slices.Repeat([]int{9}, n)...)
	for i := range l {
		l[i].Out, l[i].Where = of(1, 1), []api.Run{run(0, 1, 2)}
	}
	return l
}

// P12.5: what follows has to fit wherever a stride leads, even with the chance 0.
func TestSmoothWhereWhatFollowsDoesNotFit(t *testing.T) {
	b := far()
	for steps, want := range map[int]api.Errno{3: api.OK, 4: api.ErrRange} {
		l := inFar(steps, 64) // 576 digits, and 9 more for each step ahead of them
		if _, left, e := belief.Filter(b, l, steps); left != of(1, 1) || e != api.OK {
			t.Errorf("Filter, %d steps: left %v, error %d", steps, left, e)
		}
		if times, e := belief.Smooth(b, l, steps); e != want || (len(times) == steps+1) != (e == api.OK) || e != api.OK && len(times) > 0 {
			t.Errorf("Smooth, %d steps: %d times, error %d", steps, len(times), e)
		}
		compareStory(t, b, l, steps)
	}
	b.Scenes[0].Strides = slices.Delete(b.Scenes[0].Strides, 1, 2)
	if times, e := belief.Smooth(b, inFar(4, 64), 4); len(times) != 5 || e != api.OK {
		t.Errorf("Smooth without the stride: %d times, error %d", len(times), e)
	}
}

// P12.5: the chance is multiplied by what is noticed next, and only that by what follows: what is noticed and what follows would not fit together.
func TestSmoothMultipliesInOrder(t *testing.T) {
	b, l := far(), append(inFar(1, 32), inFar(4, 32)...)
	if e := compareStory(t, b, l, 4); e != api.OK {
		t.Errorf("Filter: error %d", e)
	}
	if times, e := belief.Smooth(b, l, 4); len(times) != 5 || e != api.OK {
		t.Errorf("Smooth: %d times, error %d", len(times), e)
	}
}

// longStory returns a belief and so many notices that masses may have too many digits.
func longStory(random *rand.Rand) (api.Belief, []api.Notice, int) {
	const most = 999999999
	b, steps := someBelief(random, most), 1+random.Intn(3)
	var notices []api.Notice
	for range 8 + random.Intn(16) {
		n := someNotice(random, b, steps, most)
		n.In, n.Out = of(1+random.Int63n(most/2), most/2+random.Int63n(most/2)), of(1+random.Int63n(most/2), most/2+random.Int63n(most/2))
		notices = append(notices, n)
	}
	return b, notices, steps
}

// P12.4, P12.5
func TestLongStories(t *testing.T) {
	random := rand.New(rand.NewSource(122))
	var done [8]int
	for range 150 {
		b, notices, steps := longStory(random)
		done[compareStory(t, b, notices, steps)]++
	}
	if min(done[api.OK], done[api.ErrRange]) < 10 {
		t.Errorf("only %v", done)
	}
}
