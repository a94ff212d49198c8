package report_test

import (
	"math/bits"
	"math/rand"
	"testing"

	"cresset/api"
	"cresset/report"
)

// wrongSignals returns signals with a number outside its range.
func wrongSignals() []api.Signal {
	return []api.Signal{
		{Owner: -1}, {Owner: 1 << 28}, {Owner: big}, {Owner: small}, {X: -8193}, {X: 8192}, {X: small}, {Y: -8193}, {Y: 8192}, {Y: big},
		{By: -1}, {By: 16}, {By: 1 << 32}, {Flags: -1}, {Flags: 16}, {Flags: small}, {Owner: 1, X: 1, Y: 1, By: 1, Flags: 16},
	}
}

// someSignal returns a valid signal.
func someSignal(random *rand.Rand) api.Signal {
	return api.Signal{Owner: random.Intn(1 << 28), X: random.Intn(1<<14) - 8192, Y: random.Intn(1<<14) - 8192, By: random.Intn(16), Flags: random.Intn(16)}
}

// cornerSignals returns signals at the bounds of the ranges.
func cornerSignals() []api.Signal {
	var l []api.Signal
	for _, owner := range []int{0, 1, 1<<28 - 1} {
		for _, x := range []int{-8192, -1, 0, 8191} {
			for _, y := range []int{-8192, -1, 0, 8191} {
				for _, few := range []int{0, 15} {
					l = append(l, api.Signal{Owner: owner, X: x, Y: y, By: few, Flags: 15 - few})
				}
			}
		}
	}
	return l
}

// isRight reports whether a frame is right, just as the document says it.
func isRight(f api.Frame) bool {
	var at [72]bool
	bit := 0
	for position := 1; position <= 71; position++ {
		if bits.OnesCount(uint(position)) > 1 {
			at[position] = f.Data>>bit&1 == 1
			bit++
		}
	}
	for k := range 7 {
		at[1<<k] = f.Check>>k&1 == 1
	}
	ones := int(f.Check >> 7)
	var sums [7]int
	for position, one := range at {
		if one {
			ones++
			for k := range 7 {
				sums[k] += position >> k & 1
			}
		}
	}
	for _, sum := range sums {
		if sum%2 == 1 {
			return false
		}
	}
	return ones%2 == 0
}

// turned returns a frame with one bit turned: of the data, and from 64 on of the check.
func turned(f api.Frame, bit int) api.Frame {
	if bit < 64 {
		f.Data ^= 1 << bit
	} else {
		f.Check ^= 1 << (bit - 64)
	}
	return f
}

// mends checks what Mend returns.
func mends(t *testing.T, what string, f api.Frame, s api.Signal, mended bool, e api.Errno) {
	t.Helper()
	if got, m, fault := report.Mend(f); got != s || m != mended || fault != e {
		t.Fatalf("%s: %v, mended %v, error %d; want %v, mended %v, error %d", what, got, m, fault, s, mended, e)
	}
}

// P2.4
func TestPack(t *testing.T) {
	for _, c := range []struct {
		s api.Signal
		f api.Frame
	}{
		{api.Signal{}, api.Frame{}},
		{api.Signal{Owner: 1}, api.Frame{Data: 1, Check: 131}},
		{api.Signal{Owner: 2}, api.Frame{Data: 2, Check: 128 + 5}},
		{api.Signal{Owner: 8}, api.Frame{Data: 8, Check: 7}},
		{api.Signal{X: 1}, api.Frame{Data: 1 << 28, Check: 35}},
		{api.Signal{Flags: 8}, api.Frame{Data: 1 << 63, Check: 128 + 71}},
	} {
		if f, e := report.Pack(c.s); f != c.f || e != api.OK {
			t.Errorf("%v is packed to %v, error %d; want %v", c.s, f, e, c.f)
		}
	}
	data := map[api.Signal]uint64{
		{Owner: 1<<28 - 1}: 1<<28 - 1,
		{X: -1}:            (1<<14 - 1) << 28,
		{X: -8192}:         1 << 41,
		{X: 8191}:          (1<<13 - 1) << 28,
		{Y: -1}:            (1<<14 - 1) << 42,
		{Y: -8192}:         1 << 55,
		{Y: 3}:             3 << 42,
		{By: 15}:           15 << 56,
		{Flags: 15}:        15 << 60,
		{Owner: 1<<28 - 1, X: -1, Y: -1, By: 15, Flags: 15}: 1<<64 - 1,
	}
	for s, want := range data {
		if f, e := report.Pack(s); f.Data != want || !isRight(f) || e != api.OK {
			t.Errorf("%v is packed to %v, error %d; want the data %x", s, f, e, want)
		}
	}
	for _, s := range wrongSignals() {
		if f, e := report.Pack(s); f != (api.Frame{}) || e != api.ErrRange {
			t.Errorf("%v is packed to %v, error %d", s, f, e)
		}
	}
}

// P2.4, P2.9
func TestMend(t *testing.T) {
	mends(t, "the example", api.Frame{Check: 131}, api.Signal{Owner: 1}, true, api.OK)
	mends(t, "nothing", api.Frame{}, api.Signal{}, false, api.OK)
	mends(t, "the last bit of Check", api.Frame{Check: 128}, api.Signal{}, true, api.OK)
	mends(t, "a bit of Check", api.Frame{Check: 64}, api.Signal{}, true, api.OK)
	mends(t, "two bits of Check", api.Frame{Check: 3}, api.Signal{}, false, api.ErrNoise)
	mends(t, "three bits that point to 72", api.Frame{Check: 64 + 8 + 128}, api.Signal{}, false, api.ErrNoise)
	mends(t, "seven bits that point to 127", api.Frame{Check: 127}, api.Signal{}, false, api.ErrNoise)
	mends(t, "three bits that point to 71", api.Frame{Data: 1 << 3, Check: 64 + 128}, api.Signal{Owner: 8, Flags: 8}, true, api.OK)
	random := rand.New(rand.NewSource(7))
	signals := cornerSignals()
	for range 50 {
		signals = append(signals, someSignal(random))
	}
	for _, s := range signals {
		f, e := report.Pack(s)
		if e != api.OK || !isRight(f) {
			t.Fatalf("%v is packed to %v, error %d", s, f, e)
		}
		mends(t, "no bit", f, s, false, api.OK)
		for i := range 72 {
			mends(t, "one bit", turned(f, i), s, true, api.OK)
			for k := range i {
				mends(t, "two bits", turned(turned(f, i), k), api.Signal{}, false, api.ErrNoise)
			}
		}
	}
}

// P2.4: any frame, against all that one bit could be.
func TestMendOfSome(t *testing.T) {
	random := rand.New(rand.NewSource(8))
	noise := 0
	for range 20000 {
		f := api.Frame{Data: random.Uint64(), Check: uint8(random.Intn(256))}
		if random.Intn(2) == 0 {
			f, _ = report.Pack(someSignal(random))
			for range random.Intn(6) {
				f = turned(f, random.Intn(72))
			}
		}
		right, mended, found := f, false, isRight(f)
		for i := 0; i < 72 && !found; i++ {
			right, mended, found = turned(f, i), true, isRight(turned(f, i))
		}
		s, m, e := report.Mend(f)
		if !found {
			noise++
			if s != (api.Signal{}) || m || e != api.ErrNoise {
				t.Fatalf("%v: %v, mended %v, error %d", f, s, m, e)
			}
			continue
		}
		again, packed := report.Pack(s)
		if m != mended || e != api.OK || packed != api.OK || again != right {
			t.Fatalf("%v: %v, mended %v, error %d; want the signal of %v", f, s, m, e, right)
		}
	}
	if noise < 1000 {
		t.Errorf("just %d frames were noise", noise)
	}
}
