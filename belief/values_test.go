package belief_test

import (
	"math/big"
	"math/rand"
	"slices"
	"testing"

	"cresset/api"
	"cresset/belief"
)

// P12.1
func TestBegin(t *testing.T) {
	half, none := of(1, 2), of(0, 1)
	for _, c := range []struct {
		what string
		b    api.Belief
		want []api.Mass
	}{
		{"the example", example(), []api.Mass{mass(0, 0, 0, of(1, 1))}},
		{"shares in any order", sea(3, 2, scene(of(5, 1), stays(), start(2, 1, of(1, 2)), start(0, 1, of(1, 6)), start(1, 0, of(1, 3)))),
			[]api.Mass{mass(0, 1, 0, of(1, 3)), mass(0, 0, 1, of(1, 6)), mass(0, 2, 1, of(1, 2))}},
		{"two scenes", sea(2, 2, scene(of(1, 2), stays(), start(1, 1, of(4, 1)), start(0, 0, of(8, 1))), scene(of(1, 4), leaves(), start(1, 0, of(1, 9)))),
			[]api.Mass{mass(0, 0, 0, of(4, 9)), mass(0, 1, 1, of(2, 9)), mass(1, 1, 0, of(1, 3))}},
		{"a scene and a share of 0", sea(2, 2, scene(none, stays(), start(0, 0, half)), scene(half, stays(), start(0, 1, none), start(1, 1, half))),
			[]api.Mass{mass(1, 1, 1, of(1, 1))}},
		{"on land", changed(func(b *api.Belief) { b.Scenes[0].Start[0].Cell = at(2, 0) }),
			[]api.Mass{mass(0, 2, 0, of(1, 9)), mass(0, 3, 2, of(2, 9)), mass(1, 3, 2, of(2, 3))}},
	} {
		l, e := belief.Begin(c.b)
		are(t, c.what, l, e, c.want, api.OK)
		isFilter(t, c.what, c.b, nil, 0, c.want, of(1, 1), api.OK)
	}
}

// P12.1: the most scenes and shares.
func TestBeginMost(t *testing.T) {
	b := sea(20, 20, slices.Repeat([]api.Scene{scene(of(1, 7), leaves(), manyStarts(256)...)}, 8)...)
	var want []api.Mass
	for n := range 8 {
		for i := range 256 {
			want = append(want, mass(n, i%20, i/20, of(1, 2048)))
		}
	}
	l, e := belief.Begin(b)
	are(t, "Begin", l, e, want, api.OK)
	isFilter(t, "2048 masses", b, []api.Notice{notice(0, of(1, 3), of(1, 1), run(0, 0, 20))}, 0,
		rescaled(want, func(m api.Mass) (int64, int64) {
			if m.Cell.Y == 0 {
				return 32, 91
			}
			return 96, 91
		}), of(91, 96), api.OK)
}

// rescaled returns masses that have the fractions a / b of what they have.
func rescaled(l []api.Mass, by func(api.Mass) (a, b int64)) []api.Mass {
	l = slices.Clone(l)
	for i := range l {
		l[i].Weight = partOf(new(big.Rat).Mul(ratOf(l[i].Weight), big.NewRat(by(l[i]))))
	}
	return l
}

// P12.2
func TestPredict(t *testing.T) {
	b := changed(func(b *api.Belief) {
		b.Scenes[0].Strides = []api.Stride{stride(1, 0, of(1, 2)), stride(0, -1, of(1, 3)), stride(0, 0, of(1, 6)), stride(0, 1, of(0, 1))}
		b.Scenes[1].Strides = []api.Stride{stride(-3, -2, of(3, 4)), stride(8, 8, of(1, 4))}
	})
	for _, c := range []struct {
		what    string
		l, want []api.Mass
	}{
		{"no masses", nil, nil},
		{"what is gone stays there", []api.Mass{mass(0, -1, -1, of(1, 2)), mass(1, -1, -1, of(1, 3))}, []api.Mass{mass(0, -1, -1, of(1, 2)), mass(1, -1, -1, of(1, 3))}},
		{"what is on land stays there", []api.Mass{mass(0, 2, 0, of(7, 2)), mass(1, 0, 1, of(1, 3)), mass(1, 1, 1, of(2, 3))}, []api.Mass{mass(0, 2, 0, of(7, 2)), mass(1, 0, 1, of(1, 3)), mass(1, 1, 1, of(2, 3))}},
		{"each stride", []api.Mass{mass(0, 2, 2, of(6, 1))}, []api.Mass{mass(0, 2, 1, of(2, 1)), mass(0, 2, 2, of(1, 1)), mass(0, 3, 2, of(3, 1))}},
		{"beyond one side", []api.Mass{mass(0, 3, 1, of(6, 1))}, []api.Mass{mass(0, -1, -1, of(3, 1)), mass(0, 3, 0, of(2, 1)), mass(0, 3, 1, of(1, 1))}},
		{"beyond two sides", []api.Mass{mass(0, 3, 0, of(6, 1))}, []api.Mass{mass(0, -1, -1, of(5, 1)), mass(0, 3, 0, of(1, 1))}},
		{"onto land", []api.Mass{mass(0, 1, 0, of(6, 1))}, []api.Mass{mass(0, -1, -1, of(2, 1)), mass(0, 1, 0, of(1, 1)), mass(0, 2, 0, of(3, 1))}},
		{"a scene's own strides", []api.Mass{mass(1, 2, 2, of(1, 1)), mass(1, 3, 2, of(1, 1))}, []api.Mass{mass(1, -1, -1, of(5, 4)), mass(1, 0, 0, of(3, 4))}},
		{"of several to the same place", []api.Mass{mass(0, -1, -1, of(1, 5)), mass(0, 3, 0, of(1, 1)), mass(0, 2, 1, of(1, 1)), mass(0, 3, 1, of(1, 1))},
			[]api.Mass{mass(0, -1, -1, of(23, 15)), mass(0, 2, 0, of(1, 3)), mass(0, 3, 0, of(1, 2)), mass(0, 2, 1, of(1, 6)), mass(0, 3, 1, of(2, 3))}},
	} {
		l, e := belief.Predict(b, c.l)
		are(t, c.what, l, e, c.want, api.OK)
	}
}

// P12.2: a sea as large as can be, with as much land as can be: each second cell.
func TestPredictLargeSea(t *testing.T) {
	b := sea(256, 256, scene(of(1, 1), []api.Stride{stride(1, 0, of(1, 2)), stride(-8, -8, of(1, 2))}, start(0, 0, of(1, 1))))
	for i := range 8192 {
		b.Sea.Land = append(b.Sea.Land, run(128+i/128, 2*(i%128), 2*(i%128)+1))
	}
	l := []api.Mass{mass(0, 255, 7, of(1, 1)), mass(0, 200, 128, of(1, 1)), mass(0, 201, 128, of(1, 1)), mass(0, 254, 191, of(1, 1)), mass(0, 255, 191, of(1, 1)), mass(0, 254, 192, of(1, 1))}
	after, e := belief.Predict(b, l)
	are(t, "Predict", after, e, []api.Mass{
		mass(0, -1, -1, of(3, 2)), mass(0, 193, 120, of(1, 2)), mass(0, 200, 128, of(1, 1)), mass(0, 202, 128, of(1, 2)),
		mass(0, 247, 183, of(1, 2)), mass(0, 246, 184, of(1, 2)), mass(0, 254, 191, of(1, 1)), mass(0, 255, 192, of(1, 2)),
	}, api.OK)
}

// P12.3
func TestLearn(t *testing.T) {
	b := changed(same)
	l := []api.Mass{mass(0, -1, -1, of(1, 2)), mass(0, 0, 0, of(1, 4)), mass(0, 1, 0, of(1, 8)), mass(1, -1, -1, of(1, 16)), mass(1, 1, 0, of(1, 16))}
	here := []api.Run{run(0, 1, 3)}
	change := func(mask int, in, out api.Part, where []api.Run) api.Notice {
		return api.Notice{Time: 7, Of: mask, Where: where, In: in, Out: out}
	}
	none, one, third := of(0, 1), of(1, 1), of(1, 3)
	for _, c := range []struct {
		what     string
		n        api.Notice
		want     []api.Mass
		evidence api.Part
	}{
		{"nothing new", change(255, one, one, here), l, one},
		{"of no scene", change(0, none, none, here), l, one},
		{"of scenes that are not there", change(252, none, none, here), l, one},
		{"just as likely everywhere", change(3, third, third, here), l, third},
		{"seen there", change(255, one, none, here), []api.Mass{mass(0, 1, 0, of(2, 3)), mass(1, 1, 0, of(1, 3))}, of(3, 16)},
		{"not there", change(255, none, one, here), []api.Mass{mass(0, -1, -1, of(8, 13)), mass(0, 0, 0, of(4, 13)), mass(1, -1, -1, of(1, 13))}, of(13, 16)},
		{"not there in the scene 0", change(1, none, one, here), []api.Mass{mass(0, -1, -1, of(4, 7)), mass(0, 0, 0, of(2, 7)), mass(1, -1, -1, of(1, 14)), mass(1, 1, 0, of(1, 14))}, of(7, 8)},
		{"not in the scene 1", change(2, none, none, here), []api.Mass{mass(0, -1, -1, of(4, 7)), mass(0, 0, 0, of(2, 7)), mass(0, 1, 0, of(1, 7))}, of(7, 8)},
		{"gone is nowhere", change(255, one, third, []api.Run{run(0, 0, 4), run(1, 0, 4), run(2, 0, 4)}),
			[]api.Mass{mass(0, -1, -1, of(4, 15)), mass(0, 0, 0, of(2, 5)), mass(0, 1, 0, of(1, 5)), mass(1, -1, -1, of(1, 30)), mass(1, 1, 0, of(1, 10))}, of(5, 8)},
		{"no region", change(255, none, third, nil), l, third},
	} {
		isLearn(t, c.what, b, l, c.n, c.want, c.evidence, api.OK)
	}
	isLearn(t, "impossible", b, l, change(255, none, none, here), nil, api.Part{}, api.ErrNone)
	isLearn(t, "impossible where it is", b, l, change(255, one, none, []api.Run{run(2, 0, 4)}), nil, api.Part{}, api.ErrNone)
	isLearn(t, "impossible in all scenes that have masses", b, l[3:], change(2, none, none, nil), nil, api.Part{}, api.ErrNone)
	isLearn(t, "no masses", b, nil, change(255, one, one, nil), nil, api.Part{}, api.ErrNone)
	isLearn(t, "a sum that is not 1", b, []api.Mass{mass(1, 0, 0, of(6, 1)), mass(1, 1, 0, of(3, 1))}, change(255, third, one, here),
		[]api.Mass{mass(1, 0, 0, of(6, 7)), mass(1, 1, 0, of(1, 7))}, of(7, 1), api.OK)
}

// P12.4
func TestFilter(t *testing.T) {
	b, none, one, half := example(), of(0, 1), of(1, 1), of(1, 2)
	first := notice(1, none, one, run(0, 0, 1))
	isFilter(t, "no notices, 2 steps", b, nil, 2, []api.Mass{mass(0, 0, 0, of(1, 4)), mass(0, 1, 0, half), mass(0, 2, 0, of(1, 4))}, one, api.OK)
	isFilter(t, "no notices, 3 steps", b, nil, 3, []api.Mass{mass(0, -1, -1, of(1, 8)), mass(0, 0, 0, of(1, 8)), mass(0, 1, 0, of(3, 8)), mass(0, 2, 0, of(3, 8))}, one, api.OK)
	isFilter(t, "a notice", b, []api.Notice{first}, 2, []api.Mass{mass(0, 1, 0, half), mass(0, 2, 0, half)}, half, api.OK)
	isFilter(t, "a notice at the last time", b, []api.Notice{first}, 1, []api.Mass{mass(0, 1, 0, one)}, half, api.OK)
	isFilter(t, "notices in the order of their times, not in that of the list", b, []api.Notice{notice(2, one, none, run(0, 1, 2)), first, notice(0, half, none, run(0, 0, 1))}, 2,
		[]api.Mass{mass(0, 1, 0, one)}, of(1, 8), api.OK)
	isFilter(t, "a notice that cannot be, at the beginning", b, []api.Notice{notice(0, none, one, run(0, 0, 1))}, 2, nil, api.Part{}, api.ErrNone)
	isFilter(t, "a notice that cannot be any more", b, []api.Notice{first, notice(2, one, none, run(0, 0, 1))}, 3, nil, api.Part{}, api.ErrNone)
	isFilter(t, "two notices that cannot both be", b, []api.Notice{notice(2, one, none, run(0, 0, 1)), notice(2, none, one, run(0, 0, 1))}, 3, nil, api.Part{}, api.ErrNone)
	isFilter(t, "32 steps", b, nil, 32, []api.Mass{
		mass(0, -1, -1, part("4294966767", "4294967296")), mass(0, 0, 0, part("1", "4294967296")), mass(0, 1, 0, part("1", "134217728")), mass(0, 2, 0, part("31", "268435456")),
	}, one, api.OK)
	b.Sea.Land = []api.Run{run(0, 1, 2)}
	isFilter(t, "on land", b, nil, 3, []api.Mass{mass(0, 0, 0, of(1, 8)), mass(0, 1, 0, of(7, 8))}, one, api.OK)
}

// P12.5
func TestSmooth(t *testing.T) {
	b, none, one, half := example(), of(0, 1), of(1, 1), of(1, 2)
	first := notice(1, none, one, run(0, 0, 1))
	start := []api.Mass{mass(0, 0, 0, one)}
	for _, c := range []struct {
		what    string
		notices []api.Notice
		steps   int
		want    [][]api.Mass
	}{
		{"no steps", nil, 0, [][]api.Mass{start}},
		{"no notices", nil, 1, [][]api.Mass{start, {mass(0, 0, 0, half), mass(0, 1, 0, half)}}},
		{"a notice", []api.Notice{first}, 2, [][]api.Mass{start, {mass(0, 1, 0, one)}, {mass(0, 1, 0, half), mass(0, 2, 0, half)}}},
		{"found at last", []api.Notice{notice(3, one, none, run(0, 1, 2))}, 3, [][]api.Mass{
			start, {mass(0, 0, 0, of(2, 3)), mass(0, 1, 0, of(1, 3))}, {mass(0, 0, 0, of(1, 3)), mass(0, 1, 0, of(2, 3))}, {mass(0, 1, 0, one)},
		}},
		{"in vain in all cells: it is gone", []api.Notice{notice(3, none, one, run(0, 0, 3))}, 3, [][]api.Mass{
			start, {mass(0, 1, 0, one)}, {mass(0, 2, 0, one)}, {mass(0, -1, -1, one)},
		}},
	} {
		times, e := belief.Smooth(b, c.notices, c.steps)
		areTimes(t, c.what, times, e, c.want, api.OK)
	}
	for _, l := range [][]api.Notice{{notice(0, none, one, run(0, 0, 1))}, {first, notice(2, one, none, run(0, 0, 1))}, {notice(2, none, none)}} {
		refusesStory(t, "what cannot be", b, l, 2, api.ErrNone)
		refusesStory(t, "what cannot be", b, l, 32, api.ErrNone)
	}
}

// P12.6
func TestScenesAndCells(t *testing.T) {
	b := changed(func(b *api.Belief) { b.Scenes = append(b.Scenes, b.Scenes[0]) })
	l := []api.Mass{mass(0, -1, -1, of(1, 2)), mass(0, 3, 0, of(1, 3)), mass(0, 2, 1, of(1, 5)), mass(2, -1, -1, of(3, 2)), mass(2, 3, 1, of(7, 1)), mass(2, 2, 2, of(9, 1)), mass(2, 3, 2, of(1, 4))}
	if scenes, e := belief.Scenes(b, l); !slices.Equal(scenes, []api.Part{of(31, 30), of(0, 1), of(71, 4)}) || e != api.OK {
		t.Errorf("Scenes: %v, error %d", scenes, e)
	}
	if scenes, e := belief.Scenes(b, nil); !slices.Equal(scenes, []api.Part{of(0, 1), of(0, 1), of(0, 1)}) || e != api.OK {
		t.Errorf("Scenes of nothing: %v, error %d", scenes, e)
	}
	want := []api.Share{start(-1, -1, of(2, 1)), start(3, 0, of(1, 3)), start(2, 1, of(1, 5)), start(3, 1, of(7, 1)), start(2, 2, of(9, 1)), start(3, 2, of(1, 4))}
	if cells, e := belief.Cells(b, l); !slices.Equal(cells, want) || e != api.OK {
		t.Errorf("Cells: %v, error %d", cells, e)
	}
	if cells, e := belief.Cells(b, nil); len(cells) > 0 || e != api.OK {
		t.Errorf("Cells of nothing: %v, error %d", cells, e)
	}
	twice := []api.Mass{mass(0, 0, 0, of(1, 2)), mass(1, 0, 0, of(1, 3)), mass(2, 0, 0, of(1, 6)), mass(2, 1, 0, of(1, 9))}
	if cells, e := belief.Cells(b, twice); !slices.Equal(cells, []api.Share{start(0, 0, of(1, 1)), start(1, 0, of(1, 9))}) || e != api.OK {
		t.Errorf("Cells with a mass in each scene: %v, error %d", cells, e)
	}
}

// P12.6
func TestLikely(t *testing.T) {
	b := sea(4, 3, slices.Repeat([]api.Scene{scene(of(1, 1), stays(), start(0, 0, of(1, 1)))}, 2)...)
	l := []api.Mass{mass(0, -1, -1, of(9, 1)), mass(0, 1, 0, of(1, 8)), mass(0, 3, 0, of(1, 8)), mass(0, 0, 1, of(1, 8)), mass(0, 2, 1, of(1, 8)), mass(0, 2, 2, of(1, 4)), mass(1, 3, 0, of(1, 8)), mass(1, 0, 2, of(1, 8))}
	whole := []api.Run{run(0, 1, 2), run(0, 3, 4), run(1, 0, 1), run(1, 2, 3), run(2, 0, 1), run(2, 2, 3)}
	for _, c := range []struct {
		p    api.Part
		want []api.Run
		e    api.Errno
	}{
		{of(0, 1), nil, api.OK},
		{part("1", nines(300)), []api.Run{run(0, 3, 4)}, api.OK},
		{of(1, 4), []api.Run{run(0, 3, 4)}, api.OK},
		{part("25000001", "100000000"), []api.Run{run(0, 3, 4), run(2, 2, 3)}, api.OK},
		{of(1, 2), []api.Run{run(0, 3, 4), run(2, 2, 3)}, api.OK},
		{of(5, 8), []api.Run{run(0, 1, 2), run(0, 3, 4), run(2, 2, 3)}, api.OK},
		{of(3, 4), []api.Run{run(0, 1, 2), run(0, 3, 4), run(1, 0, 1), run(2, 2, 3)}, api.OK},
		{of(7, 8), []api.Run{run(0, 1, 2), run(0, 3, 4), run(1, 0, 1), run(1, 2, 3), run(2, 2, 3)}, api.OK},
		{part("875000001", "1000000000"), whole, api.OK},
		{of(1, 1), whole, api.OK},
		{part("1000000001", "1000000000"), nil, api.ErrNone},
		{of(9, 1), nil, api.ErrNone},
		{part(nines(300), "1"), nil, api.ErrNone},
	} {
		region, e := belief.Likely(b, l, c.p)
		areRuns(t, "Likely for "+string(c.p.Num)+"/"+string(c.p.Den), region, e, c.want, c.e)
	}
	for p, want := range deepParts() {
		region, e := belief.Likely(b, []api.Mass{mass(0, 0, 0, part(nines(300), "1"))}, p)
		if want == api.OK {
			areRuns(t, "Likely", region, e, []api.Run{run(0, 0, 1)}, want)
		} else {
			areRuns(t, "Likely", region, e, nil, want)
		}
	}
	region, e := belief.Likely(b, nil, of(0, 1))
	areRuns(t, "nothing of nothing", region, e, nil, api.OK)
	region, e = belief.Likely(b, nil, of(1, 9))
	areRuns(t, "something of nothing", region, e, nil, api.ErrNone)
	region, e = belief.Likely(b, l[:1], of(1, 1))
	areRuns(t, "of what is gone", region, e, nil, api.ErrNone)
}

// P12.6: cells that are no region, as they have more than MaxRuns runs.
func TestLikelyOfManyRuns(t *testing.T) {
	b := sea(256, 256, scene(of(1, 1), stays(), start(0, 0, of(1, 1))))
	var l []api.Mass
	var runs []api.Run
	for i := range 8193 {
		y, x := i/128, 2*(i%128)
		l, runs = append(l, mass(0, x, y, of(1, 1))), append(runs, run(y, x, x+1))
	}
	region, e := belief.Likely(b, l, of(8192, 1))
	areRuns(t, "8192 runs", region, e, runs[:8192], api.OK)
	region, e = belief.Likely(b, l, of(8193, 1))
	areRuns(t, "8193 runs", region, e, nil, api.ErrLong)
}

// P12.1 to P12.6, against the chapter's words
func TestModel(t *testing.T) {
	random := rand.New(rand.NewSource(121))
	var done [8]int
	for i := range 1500 {
		b, notices, steps := someStory(random, []int64{2, 12, 999999999}[i%3])
		m := model{b}
		want, e := []api.Mass(nil), modelled(func() { m.begin() })
		if e == api.OK {
			want = m.begin()
		}
		l, got := belief.Begin(b)
		are(t, "Begin", l, got, want, e)
		done[compareStory(t, b, notices, steps)]++
		compareMasses(t, b, someMasses(random, b, []int64{2, 12, 999999999}[i%3]), someNotice(random, b, 32, 999), somePart(random, 4))
	}
	if min(done[api.OK], done[api.ErrNone]) < 100 {
		t.Errorf("only %v", done)
	}
}

// compareStory compares Filter and Smooth with the model, and returns the error of Filter.
func compareStory(t *testing.T, b api.Belief, notices []api.Notice, steps int) api.Errno {
	t.Helper()
	m := model{b}
	var times [][]api.Mass
	var last []api.Mass
	var left api.Part
	e := modelled(func() {
		filtered, r := m.filter(notices, steps)
		last, left = filtered[steps], partOf(r)
	})
	isFilter(t, "a story", b, notices, steps, last, left, e)
	smoothError := modelled(func() { times = m.smooth(notices, steps) })
	smoothed, got := belief.Smooth(b, notices, steps)
	areTimes(t, "Smooth of a story", smoothed, got, times, smoothError)
	return e
}

// compareMasses compares all functions that are given masses with the model.
func compareMasses(t *testing.T, b api.Belief, l []api.Mass, n api.Notice, p api.Part) {
	t.Helper()
	m := model{b}
	var after, learned []api.Mass
	var evidence api.Part
	e := modelled(func() { after = m.predict(l) })
	got, gotError := belief.Predict(b, l)
	are(t, "Predict", got, gotError, after, e)
	e = modelled(func() {
		found, r := m.learn(l, n)
		learned, evidence = found, partOf(r)
	})
	isLearn(t, "a notice", b, l, n, learned, evidence, e)
	var scenes []api.Part
	e = modelled(func() { scenes = m.scenes(l) })
	if got, gotError := belief.Scenes(b, l); !slices.Equal(got, scenes) || gotError != e {
		t.Errorf("Scenes: %s, error %d; want %s, error %d", brief(got), gotError, brief(scenes), e)
	}
	var cells []api.Share
	e = modelled(func() { cells = m.cells(l) })
	if got, gotError := belief.Cells(b, l); !slices.Equal(got, cells) || gotError != e {
		t.Errorf("Cells: %s, error %d; want %s, error %d", brief(got), gotError, brief(cells), e)
	}
	var region []api.Run
	e = modelled(func() { region = m.likely(l, p) })
	runs, gotError := belief.Likely(b, l, p)
	areRuns(t, "Likely", runs, gotError, region, e)
}

// P12.4: on its way Filter may have more masses than a list that is handed to it.
func TestFilterOfManyMasses(t *testing.T) {
	s := scene(of(1, 1), nil)
	for i := range 256 {
		s.Start = append(s.Start, start(i%16*16, i/16*16, of(1, 1)))
	}
	for _, c := range []api.Cell{at(0, 0), at(1, 0), at(3, 0), at(7, 0), at(0, 1), at(5, 1), at(0, 3), at(0, 7)} { // each two of them have another sum
		s.Strides = append(s.Strides, stride(c.X, c.Y, of(1, 8)))
	}
	b := sea(256, 256, slices.Repeat([]api.Scene{s}, 8)...)
	l, left, e := belief.Filter(b, []api.Notice{notice(2, of(1, 2), of(1, 2), run(0, 0, 256))}, 2)
	if len(l) != 8*256*36 || left != of(1, 2) || e != api.OK {
		t.Fatalf("Filter: %d masses, left %v, error %d", len(l), left, e)
	}
	first, last := mass(0, 0, 0, of(1, 2048*64)), mass(7, 240, 254, of(1, 2048*64))
	if l[0] != first || l[1].Weight != of(1, 2048*32) || l[len(l)-1] != last || sumOf(l).Cmp(big.NewRat(1, 1)) != 0 {
		t.Errorf("the masses are %v to %v, with the sum %v", l[0], l[len(l)-1], sumOf(l))
	}
}
