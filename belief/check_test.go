package belief_test

import (
	"slices"
	"strings"
	"testing"

	"cresset/api"
	"cresset/belief"
)

// changed returns a valid belief of two scenes with a change.
func changed(change func(b *api.Belief)) api.Belief {
	b := sea(4, 3,
		scene(of(1, 3), []api.Stride{stride(0, 0, of(1, 2)), stride(1, 0, of(1, 2))}, start(0, 0, of(1, 1)), start(3, 2, of(2, 1))),
		scene(of(2, 3), []api.Stride{stride(-8, 8, of(1, 3)), stride(0, -1, of(2, 3))}, start(3, 2, of(1, 7)), start(1, 1, of(0, 1))),
	)
	b.Sea.Land = []api.Run{run(0, 2, 3), run(1, 0, 2)}
	change(&b)
	return b
}

func same(*api.Belief) {}

// refusesStory checks the error of Filter and of Smooth, whose results have to be zero.
func refusesStory(t *testing.T, what string, b api.Belief, notices []api.Notice, steps int, want api.Errno) {
	t.Helper()
	isFilter(t, what, b, notices, steps, nil, api.Part{}, want)
	times, e := belief.Smooth(b, notices, steps)
	areTimes(t, what+": Smooth", times, e, nil, want)
}

// refusesMasses checks that every function that is given masses refuses them, or the belief.
func refusesMasses(t *testing.T, what string, b api.Belief, l []api.Mass) {
	t.Helper()
	after, e := belief.Predict(b, l)
	are(t, what+": Predict", after, e, nil, api.ErrArg)
	isLearn(t, what, b, l, notice(0, of(0, 1), of(0, 1)), nil, api.Part{}, api.ErrArg)
	if scenes, e := belief.Scenes(b, l); len(scenes) > 0 || e != api.ErrArg {
		t.Errorf("%s: Scenes: %v, error %d", what, scenes, e)
	}
	if cells, e := belief.Cells(b, l); len(cells) > 0 || e != api.ErrArg {
		t.Errorf("%s: Cells: %v, error %d", what, cells, e)
	}
	region, e := belief.Likely(b, l, of(1, 1))
	areRuns(t, what+": Likely", region, e, nil, api.ErrArg)
}

// refusesBelief checks that every function refuses a belief.
func refusesBelief(t *testing.T, what string, b api.Belief) {
	t.Helper()
	if e := belief.Check(b); e != api.ErrArg {
		t.Errorf("%s: Check: error %d", what, e)
	}
	if e := belief.CheckNotice(b, notice(0, of(1, 1), of(1, 1))); e != api.ErrArg {
		t.Errorf("%s: CheckNotice: error %d", what, e)
	}
	l, e := belief.Begin(b)
	are(t, what+": Begin", l, e, nil, api.ErrArg)
	refusesMasses(t, what, b, nil)
	refusesMasses(t, what, b, []api.Mass{mass(0, 0, 0, of(1, 1))})
	refusesStory(t, what, b, nil, 0, api.ErrArg)
	refusesStory(t, what, b, slices.Repeat([]api.Notice{notice(0, of(1, 1), of(1, 1))}, 65), 0, api.ErrArg)
}

// tiny are fractions, and whether one of a belief can be so.
func tiny() map[api.Part]api.Errno {
	return map[api.Part]api.Errno{
		of(0, 1): api.OK, of(1, 1): api.OK, of(7, 2): api.OK, part(nines(9), "1"): api.OK, part("1", nines(9)): api.OK, part("999999998", nines(9)): api.OK, part(ten(8), nines(9)): api.OK,
		part(ten(9), "1"): api.ErrArg, part("1", ten(9)): api.ErrArg, part(ten(9), nines(9)): api.ErrArg, part("999999999", ten(9)): api.ErrArg, part(strings.Repeat("1", 700), "1"): api.ErrArg,
		{}: api.ErrArg, part("1", ""): api.ErrArg, part("", "1"): api.ErrArg, part("1", "0"): api.ErrArg, part("0", "0"): api.ErrArg, part("0", "2"): api.ErrArg, part("2", "4"): api.ErrArg,
		part("01", "2"): api.ErrArg, part("1", "02"): api.ErrArg, part("-1", "2"): api.ErrArg, part("+1", "2"): api.ErrArg, part("1/2", "1"): api.ErrArg, part("0.5", "1"): api.ErrArg, part("a", "1"): api.ErrArg, part("\uff11", "1"): api.ErrArg,
	}
}

// checks checks Check, and, if it refuses a belief, all functions.
func checks(t *testing.T, what string, b api.Belief, want api.Errno) {
	t.Helper()
	if want != api.OK {
		refusesBelief(t, what, b)
	} else if e := belief.Check(b); e != api.OK {
		t.Errorf("%s: Check: error %d", what, e)
	}
}

// P12.1
func TestCheckFractions(t *testing.T) {
	for p, want := range tiny() {
		what := string(p.Num) + "/" + string(p.Den)
		for i := range 2 {
			checks(t, "a scene's weight "+what, changed(func(b *api.Belief) { b.Scenes[i].Weight = p }), want)
			checks(t, "the first share "+what, changed(func(b *api.Belief) {
				b.Scenes[i].Start[0].Weight, b.Scenes[i].Start[1].Weight = p, of(1, 1)
			}), want)
			checks(t, "the last share "+what, changed(func(b *api.Belief) { b.Scenes[i].Start[1].Weight = p }), want)
			for k := range 2 {
				if want != api.OK {
					checks(t, "a chance "+what, changed(func(b *api.Belief) { b.Scenes[i].Strides[k].Chance = p }), want)
				}
			}
		}
	}
}

// P12.1
func TestCheckChances(t *testing.T) {
	for _, c := range []struct {
		what    string
		chances []api.Part
		want    api.Errno
	}{
		{"1", []api.Part{of(1, 1)}, api.OK},
		{"1, 0", []api.Part{of(1, 1), of(0, 1)}, api.OK},
		{"0, 1", []api.Part{of(0, 1), of(1, 1)}, api.OK},
		{"1/2, 1/3, 1/6", []api.Part{of(1, 2), of(1, 3), of(1, 6)}, api.OK},
		{"the least one and the rest", []api.Part{of(1, 999999999), of(999999998, 999999999)}, api.OK},
		{"0", []api.Part{of(0, 1)}, api.ErrArg},
		{"less than 1", []api.Part{of(999999998, 999999999)}, api.ErrArg},
		{"more than 1", []api.Part{of(999999999, 999999998)}, api.ErrArg},
		{"1, 1", []api.Part{of(1, 1), of(1, 1)}, api.ErrArg},
		{"a bit more than 1", []api.Part{of(1, 2), of(1, 3), of(1, 6), of(1, 999999999)}, api.ErrArg},
		{"a bit less than 1", []api.Part{of(1, 2), of(1, 3), of(166666666, 999999999)}, api.ErrArg},
	} {
		var strides []api.Stride
		for i, p := range c.chances {
			strides = append(strides, stride(i, -i, p))
		}
		for i := range 2 {
			checks(t, c.what, changed(func(b *api.Belief) { b.Scenes[i].Strides = strides }), c.want)
		}
	}
}

// longStrides returns so many strides with chances of nine digits, many of which have no divisor in common.
func longStrides(n int) []api.Stride {
	l := []api.Stride{stride(8, 8, of(int64(13-n/2), 13))}
	for i, p := range coprimes(slices.Repeat([]int{7}, n/2)...) {
		den := 13 * p.Int64()
		l = append(l, stride(i-6, 0, of(1, den)), stride(i-6, 1, of(p.Int64()-1, den)))
	}
	return l
}

// P12.1
func TestCheckStrides(t *testing.T) {
	checks(t, "no strides", changed(func(b *api.Belief) { b.Scenes[0].Strides = nil }), api.ErrArg)
	checks(t, "25 strides of long chances", changed(func(b *api.Belief) { b.Scenes[1].Strides = longStrides(24) }), api.OK)
	for n, want := range map[int]api.Errno{1: api.OK, 25: api.OK, 26: api.ErrArg, 289: api.ErrArg} {
		var l []api.Stride
		for i := range n {
			l = append(l, stride(i%17-8, i/17-8, of(1, int64(n))))
		}
		checks(t, "as many strides", changed(func(b *api.Belief) { b.Scenes[1].Strides = l }), want)
	}
	for _, n := range []int{-8, 8} {
		checks(t, "a far stride", changed(func(b *api.Belief) { b.Scenes[0].Strides[0] = stride(n, n, of(1, 2)) }), api.OK)
	}
	for _, n := range outside(-8, 8) {
		for i := range 2 {
			checks(t, "a stride that is too far", changed(func(b *api.Belief) { b.Scenes[i].Strides[i].DX = n }), api.ErrArg)
			checks(t, "a stride that is too far", changed(func(b *api.Belief) { b.Scenes[i].Strides[1-i].DY = n }), api.ErrArg)
		}
	}
	for _, c := range []struct {
		a, b api.Cell
		want api.Errno
	}{
		{at(1, 2), at(1, 3), api.OK}, {at(1, 2), at(0, 2), api.OK}, {at(1, 2), at(2, 1), api.OK}, {at(-1, 1), at(1, -1), api.OK}, {at(-8, 8), at(-8, -8), api.OK},
		{at(1, 2), at(1, 2), api.ErrArg}, {at(0, 0), at(0, 0), api.ErrArg}, {at(-8, 8), at(-8, 8), api.ErrArg},
	} {
		checks(t, "two strides", changed(func(b *api.Belief) {
			b.Scenes[1].Strides = []api.Stride{stride(c.a.X, c.a.Y, of(1, 2)), stride(5, 5, of(0, 1)), stride(c.b.X, c.b.Y, of(1, 2))}
		}), c.want)
	}
}

// manyStarts returns so many shares in a sea of the width 20.
func manyStarts(n int) []api.Share {
	var l []api.Share
	for i := range n {
		l = append(l, start(i%20, i/20, of(1, 1)))
	}
	return l
}

// P12.1
func TestCheckStarts(t *testing.T) {
	for n, want := range map[int]api.Errno{0: api.ErrArg, 1: api.OK, 256: api.OK, 257: api.ErrArg, 400: api.ErrArg} {
		checks(t, "as many shares", sea(20, 20, scene(of(1, 1), stays(), manyStarts(n)...)), want)
	}
	for _, c := range []struct {
		cell api.Cell
		want api.Errno
	}{
		{at(0, 1), api.OK}, {at(2, 0), api.OK}, {at(3, 0), api.OK}, {at(0, 2), api.OK},
		{at(-1, -1), api.ErrArg}, {at(4, 0), api.ErrArg}, {at(0, 3), api.ErrArg}, {at(-1, 0), api.ErrArg}, {at(0, -1), api.ErrArg}, {at(2, 3), api.ErrArg}, {at(huge, 0), api.ErrArg}, {at(0, small), api.ErrArg},
		{at(3, 2), api.ErrArg}, // the second one again
	} {
		checks(t, "a cell", changed(func(b *api.Belief) { b.Scenes[0].Start[0].Cell = c.cell }), c.want)
	}
	none := of(0, 1)
	checks(t, "one share of 0", changed(func(b *api.Belief) { b.Scenes[0].Start[0].Weight = none }), api.OK)
	checks(t, "all shares 0", changed(func(b *api.Belief) { b.Scenes[0].Start[0].Weight, b.Scenes[0].Start[1].Weight = none, none }), api.ErrArg)
	checks(t, "all shares 0 of a scene of the weight 0", changed(func(b *api.Belief) { b.Scenes[1].Weight, b.Scenes[1].Start[0].Weight = none, none }), api.ErrArg)
	checks(t, "the same cell twice, with the weight 0", changed(func(b *api.Belief) {
		b.Scenes[1].Start = []api.Share{start(0, 0, of(1, 1)), start(1, 0, of(1, 1)), start(0, 0, none)}
	}), api.ErrArg)
}

// P12.1
func TestCheckScenes(t *testing.T) {
	checks(t, "two scenes", changed(same), api.OK)
	checks(t, "the example", example(), api.OK)
	checks(t, "no belief", api.Belief{}, api.ErrArg)
	for n, want := range map[int]api.Errno{0: api.ErrArg, 1: api.OK, 8: api.OK, 9: api.ErrArg, 100: api.ErrArg} {
		checks(t, "as many scenes", sea(2, 2, slices.Repeat([]api.Scene{scene(of(1, 1), stays(), start(0, 0, of(1, 1)))}, n)...), want)
	}
	none := of(0, 1)
	checks(t, "one scene of the weight 0", changed(func(b *api.Belief) { b.Scenes[1].Weight = none }), api.OK)
	checks(t, "all scenes of the weight 0", changed(func(b *api.Belief) { b.Scenes[0].Weight, b.Scenes[1].Weight = none, none }), api.ErrArg)
	checks(t, "an empty scene", changed(func(b *api.Belief) { b.Scenes = append(b.Scenes, api.Scene{}) }), api.ErrArg)
	for _, change := range []func(b *api.Belief){
		func(b *api.Belief) { b.Sea.W = 0 }, func(b *api.Belief) { b.Sea.H = -1 }, func(b *api.Belief) { b.Sea.W = 257 }, func(b *api.Belief) { b.Sea.H = huge },
		func(b *api.Belief) { b.Sea.Size = 0 }, func(b *api.Belief) { b.Sea.Size = 50001 }, func(b *api.Belief) { b.Sea.Land[1].To = 5 }, func(b *api.Belief) { b.Sea.Land[1].Y = 0 },
	} {
		checks(t, "a wrong sea", changed(change), api.ErrArg)
	}
}

// checksNotice checks CheckNotice, and whether all functions refuse what it refuses.
func checksNotice(t *testing.T, what string, b api.Belief, n api.Notice, want api.Errno) {
	t.Helper()
	if e := belief.CheckNotice(b, n); e != want {
		t.Errorf("%s: CheckNotice: error %d", what, e)
	}
	if want == api.OK {
		return
	}
	isLearn(t, what, b, []api.Mass{mass(0, 0, 0, of(1, 1))}, n, nil, api.Part{}, want)
	isLearn(t, what+" (without masses)", b, nil, n, nil, api.Part{}, want)
	refusesStory(t, what, b, []api.Notice{n}, 32, want)
	refusesStory(t, what, b, append(slices.Repeat([]api.Notice{notice(0, of(0, 1), of(0, 1))}, 64), n), 32, want)
}

// P12.1
func TestCheckNotice(t *testing.T) {
	b := changed(same)
	plain := notice(1, of(1, 2), of(1, 1), run(0, 0, 2), run(2, 1, 4))
	change := func(do func(n *api.Notice)) api.Notice {
		n := plain
		do(&n)
		return n
	}
	for p, want := range tiny() {
		if p == of(7, 2) || p == part(nines(9), "1") {
			want = api.ErrArg
		}
		what := string(p.Num) + "/" + string(p.Den)
		checksNotice(t, "In "+what, b, change(func(n *api.Notice) { n.In = p }), want)
		checksNotice(t, "Out "+what, b, change(func(n *api.Notice) { n.Out = p }), want)
	}
	checksNotice(t, "a bit above 1", b, change(func(n *api.Notice) { n.In = of(999999999, 999999998) }), api.ErrArg)
	for _, n := range []int{0, 1, 32} {
		checksNotice(t, "a time", b, change(func(x *api.Notice) { x.Time = n }), api.OK)
	}
	for _, n := range outside(0, 32) {
		checksNotice(t, "a wrong time", b, change(func(x *api.Notice) { x.Time = n }), api.ErrArg)
	}
	for _, n := range []int{0, 1, 2, 4, 128, 255} {
		checksNotice(t, "scenes", b, change(func(x *api.Notice) { x.Of = n }), api.OK)
	}
	for _, n := range outside(0, 255) {
		checksNotice(t, "wrong scenes", b, change(func(x *api.Notice) { x.Of = n }), api.ErrArg)
	}
	for _, l := range [][]api.Run{nil, {run(0, 0, 4), run(1, 0, 4), run(2, 0, 4)}, {run(1, 0, 1), run(1, 2, 3)}} {
		checksNotice(t, "a region", b, change(func(x *api.Notice) { x.Where = l }), api.OK)
	}
	for _, l := range [][]api.Run{{run(0, 0, 5)}, {run(3, 0, 1)}, {run(-1, -1, 0)}, {run(0, 1, 1)}, {run(1, 0, 1), run(0, 0, 1)}, {run(0, 0, 1), run(0, 1, 2)}, make([]api.Run, 8193)} {
		checksNotice(t, "a wrong region", b, change(func(x *api.Notice) { x.Where = l }), api.ErrArg)
	}
	checksNotice(t, "no notice", b, api.Notice{}, api.ErrArg)
}

// P12.4, P12.5: ErrArg comes ahead of ErrLong, and this ahead of all that happens.
func TestRefusedStories(t *testing.T) {
	b, none := changed(same), of(0, 1)
	certain, never := notice(2, of(1, 1), of(1, 1)), notice(2, none, none)
	for _, steps := range append(outside(0, 32), 0, 1) { // 0 and 1 are below the notice's time
		refusesStory(t, "steps", b, []api.Notice{certain}, steps, api.ErrArg)
		refusesStory(t, "steps and too many notices", b, slices.Repeat([]api.Notice{certain}, 65), steps, api.ErrArg)
		refusesStory(t, "steps and a notice that cannot be", b, []api.Notice{notice(0, none, none), certain}, steps, api.ErrArg)
	}
	for _, steps := range outside(0, 32) {
		refusesStory(t, "steps without notices", b, nil, steps, api.ErrArg)
	}
	for _, n := range []int{65, 66, 1000} {
		refusesStory(t, "too many notices", b, slices.Repeat([]api.Notice{certain}, n), 2, api.ErrLong)
		refusesStory(t, "too many notices that cannot be", b, slices.Repeat([]api.Notice{never}, n), 2, api.ErrLong)
		refusesStory(t, "too many notices for what does not fit", longStart(31, stays()), slices.Repeat([]api.Notice{certain}, n), 2, api.ErrLong)
	}
	for _, steps := range []int{2, 32} {
		if l, left, e := belief.Filter(b, slices.Repeat([]api.Notice{certain}, 64), steps); len(l) == 0 || left != of(1, 1) || e != api.OK {
			t.Errorf("64 notices, %d steps: %v, %v, error %d", steps, l, left, e)
		}
		if times, e := belief.Smooth(b, slices.Repeat([]api.Notice{certain}, 64), steps); len(times) != steps+1 || e != api.OK {
			t.Errorf("64 notices, %d steps: %v, error %d", steps, times, e)
		}
	}
}

// deepParts are fractions, and whether a mass can be so.
func deepParts() map[api.Part]api.Errno {
	return map[api.Part]api.Errno{
		of(1, 1): api.OK, of(7, 2): api.OK, part(nines(300), "1"): api.OK, part("1", nines(300)): api.OK, part(ten(299), nines(300)): api.OK,
		part(ten(300), "1"): api.ErrArg, part("1", ten(300)): api.ErrArg, part(nines(301), "1"): api.ErrArg,
		{}: api.ErrArg, part("0", "2"): api.ErrArg, part("2", "4"): api.ErrArg, part("1", "0"): api.ErrArg, part("01", "1"): api.ErrArg, part("-1", "1"): api.ErrArg, part("1", ""): api.ErrArg,
	}
}

// checksMasses checks that masses are taken, or refused.
func checksMasses(t *testing.T, what string, b api.Belief, l []api.Mass, want api.Errno) {
	t.Helper()
	if want != api.OK {
		refusesMasses(t, what, b, l)
		return
	}
	if _, e := belief.Scenes(b, l); e != api.OK {
		t.Errorf("%s: Scenes: error %d", what, e)
	}
	if _, e := belief.Predict(b, l); e != api.OK {
		t.Errorf("%s: Predict: error %d", what, e)
	}
}

// P12.2, P12.3, P12.6: masses that are not valid
func TestCheckMasses(t *testing.T) {
	b := changed(func(b *api.Belief) { b.Scenes[0].Strides, b.Scenes[1].Strides = stays(), stays() })
	for p, want := range deepParts() {
		checksMasses(t, "a weight", b, []api.Mass{mass(0, 0, 0, p), mass(1, 0, 0, of(1, 1))}, want)
		checksMasses(t, "a last weight", b, []api.Mass{mass(0, 0, 0, of(1, 1)), mass(1, 0, 0, p)}, want)
	}
	checksMasses(t, "the weight 0", b, []api.Mass{mass(0, 0, 0, of(0, 1))}, api.ErrArg)
	checksMasses(t, "no masses", b, nil, api.OK)
	for _, c := range []struct {
		x, y int
		want api.Errno
	}{
		{-1, -1, api.OK}, {0, 0, api.OK}, {3, 2, api.OK}, {2, 0, api.OK},
		{4, 0, api.ErrArg}, {0, 3, api.ErrArg}, {-1, 0, api.ErrArg}, {0, -1, api.ErrArg}, {-2, -2, api.ErrArg}, {-1, -2, api.ErrArg}, {huge, 0, api.ErrArg}, {0, small, api.ErrArg},
	} {
		checksMasses(t, "a cell", b, []api.Mass{mass(1, c.x, c.y, of(1, 1))}, c.want)
	}
	for _, n := range outside(0, 1) {
		checksMasses(t, "a wrong scene", b, []api.Mass{mass(n, 0, 0, of(1, 1))}, api.ErrArg)
	}
	var all []api.Mass
	for p := range places(b) {
		all = append(all, mass(p.scene, p.cell.X, p.cell.Y, of(1, 1)))
	}
	checksMasses(t, "all places", b, all, api.OK)
	for i := range len(all) - 1 {
		swapped, twice := slices.Clone(all), slices.Clone(all)
		swapped[i], swapped[i+1] = all[i+1], all[i]
		twice[i] = all[i+1]
		checksMasses(t, "two masses in the wrong order", b, swapped, api.ErrArg)
		checksMasses(t, "the same place twice", b, twice, api.ErrArg)
	}
}

// P12.2, P12.3, P12.6: more masses than the lists of layer 1 can have
func TestManyMasses(t *testing.T) {
	b := sea(256, 256, scene(of(1, 1), stays(), start(0, 0, of(1, 1))))
	refusesMasses(t, "65537 masses", b, equal(b, 65537))
	l, part := equal(b, 65536), of(1, 65536)
	after, e := belief.Predict(b, l)
	are(t, "Predict", after, e, l, api.OK)
	isLearn(t, "65536 masses", b, l, notice(0, of(1, 1), of(1, 2)), l, of(1, 2), api.OK)
	if cells, e := belief.Cells(b, l); len(cells) != 65536 || cells[65535] != (api.Share{Cell: at(254, 255), Weight: part}) || e != api.OK {
		t.Errorf("Cells of 65536 masses: %d, error %d", len(cells), e)
	}
	if scenes, e := belief.Scenes(b, l); !slices.Equal(scenes, []api.Part{of(1, 1)}) || e != api.OK {
		t.Errorf("Scenes of 65536 masses: %v, error %d", scenes, e)
	}
	region, e := belief.Likely(b, l, of(769, 65536))
	areRuns(t, "Likely of 65536 masses", region, e, []api.Run{run(0, 0, 256), run(1, 0, 256), run(2, 0, 256), run(3, 0, 1)}, api.OK)
}
