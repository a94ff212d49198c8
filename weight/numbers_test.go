package weight_test

import (
	"math"
	"math/rand"
	"strings"
	"testing"

	"cresset/api"
	"cresset/weight"
)

// wrongNumbers are no valid natural numbers.
var wrongNumbers = []string{"", "00", "01", "+1", "-1", " 1", "1 ", "1.", "0x1", "1e3", "a", "1a", "/", ":", "\x00", "\xff", "1\n", "½", "१", "1" + most, strings.Repeat("0", api.MaxDigits), strings.Repeat("9", 100000)}

// wrongParts are no valid fractions.
func wrongParts() []api.Part {
	wrong := []api.Part{{}, part("0", "0"), part("1", "0"), part("0", "2"), part("2", "4"), part("2", "2"), part(most, most), part(power(2, 1000), "2"), part("7", power(7, 100)), part(power(2, 400)+"0", power(3, 400)+"0")}
	for _, n := range wrongNumbers {
		wrong = append(wrong, part(n, "1"), part("1", n))
	}
	return wrong
}

// P1.1
func TestCheckNat(t *testing.T) {
	for _, n := range []string{"0", "1", "9", "10", "18446744073709551616", ten(api.MaxDigits - 1), most} {
		if e := weight.CheckNat(api.Nat(n)); e != api.OK {
			t.Errorf("%.40q has the error %d", n, e)
		}
	}
	for _, n := range wrongNumbers {
		if e := weight.CheckNat(api.Nat(n)); e != api.ErrArg {
			t.Errorf("%.40q has the error %d", n, e)
		}
	}
}

// P1.1
func TestOf(t *testing.T) {
	for _, c := range []struct {
		n    int
		want api.Nat
		e    api.Errno
	}{{0, "0", api.OK}, {1, "1", api.OK}, {1200, "1200", api.OK}, {math.MaxInt, "9223372036854775807", api.OK}, {-1, "", api.ErrLess}, {math.MinInt, "", api.ErrLess}} {
		if n, e := weight.Of(c.n); n != c.want || e != c.e {
			t.Errorf("%d is %q, error %d; want %q, error %d", c.n, n, e, c.want, c.e)
		}
	}
}

// P1.1
func TestInt(t *testing.T) {
	for _, c := range []struct {
		n    string
		want int
		e    api.Errno
	}{
		{"0", 0, api.OK}, {"7", 7, api.OK}, {"1000000000000000000", 1000000000000000000, api.OK},
		{"4611686018427387903", 1<<62 - 1, api.OK}, {"4611686018427387904", 1 << 62, api.OK}, {"4611686018427387905", 0, api.ErrRange},
		{"9223372036854775808", 0, api.ErrRange}, {"18446744073709551615", 0, api.ErrRange},
		{"18446744073709551616", 0, api.ErrRange}, {"18446744073709551617", 0, api.ErrRange},
		{power(2, 128), 0, api.ErrRange}, {most, 0, api.ErrRange},
	} {
		if n, e := weight.Int(api.Nat(c.n)); n != c.want || e != c.e {
			t.Errorf("%.40q is %d, error %d; want %d, error %d", c.n, n, e, c.want, c.e)
		}
	}
	for _, n := range wrongNumbers {
		if i, e := weight.Int(api.Nat(n)); i != 0 || e != api.ErrArg {
			t.Errorf("%.40q is %d, error %d", n, i, e)
		}
	}
}

// P1.1
func TestCheck(t *testing.T) {
	for _, p := range []api.Part{of(0, 1), of(1, 1), of(3, 2), of(2, 3), whole(most), part("1", most), part(most, ten(api.MaxDigits-1)), part(power(2, 1993), power(3, 1250))} {
		if e := weight.Check(p); e != api.OK {
			t.Errorf("%.80q has the error %d", p, e)
		}
	}
	for _, p := range wrongParts() {
		if e := weight.Check(p); e != api.ErrArg {
			t.Errorf("%.80q has the error %d", p, e)
		}
	}
}

// P1.1
func TestMake(t *testing.T) {
	for _, c := range []struct {
		num, den string
		want     api.Part
		e        api.Errno
	}{
		{"6", "4", of(3, 2), api.OK}, {"0", "7", of(0, 1), api.OK}, {"7", "7", of(1, 1), api.OK}, {"5", "1", of(5, 1), api.OK},
		{"0", "1", of(0, 1), api.OK}, {"1", "0", api.Part{}, api.ErrZero}, {"0", "0", api.Part{}, api.ErrZero}, {most, "0", api.Part{}, api.ErrZero},
		{"01", "2", api.Part{}, api.ErrArg}, {"01", "0", api.Part{}, api.ErrArg}, {"1", "00", api.Part{}, api.ErrArg},
		{"1" + most, "0", api.Part{}, api.ErrArg}, {"1", "1" + most, api.Part{}, api.ErrArg},
		{most, most, of(1, 1), api.OK}, {most, "9", whole(strings.Repeat("1", api.MaxDigits)), api.OK},
		{"3", most, part("1", strings.Repeat("3", api.MaxDigits)), api.OK},
		{ten(599), ten(598), of(10, 1), api.OK},
		{power(6, 700), power(10, 500), part(mulText(power(2, 200), power(3, 700)), power(5, 500)), api.OK},
	} {
		p, e := weight.Make(api.Nat(c.num), api.Nat(c.den))
		is(t, "Make", p, e, c.want, c.e)
	}
	for _, n := range wrongNumbers {
		p, e := weight.Make(api.Nat(n), "1")
		is(t, "Make", p, e, api.Part{}, api.ErrArg)
		p, e = weight.Make("1", api.Nat(n))
		is(t, "Make", p, e, api.Part{}, api.ErrArg)
	}
	random := rand.New(rand.NewSource(1))
	for range 2000 {
		p, k := some(random, 400), someNumber(random, 200)
		if k.Sign() == 0 {
			continue
		}
		made, e := weight.Make(api.Nat(mulText(string(p.Num), k.String())), api.Nat(mulText(string(p.Den), k.String())))
		is(t, "Make", made, e, p, api.OK)
	}
}

// P1.1
func TestRatio(t *testing.T) {
	for _, c := range []struct {
		a, b int
		want api.Part
		e    api.Errno
	}{
		{6, 4, of(3, 2), api.OK}, {0, 7, of(0, 1), api.OK}, {7, 1, of(7, 1), api.OK}, {math.MaxInt, 7, of(math.MaxInt/7, 1), api.OK},
		{math.MaxInt, math.MaxInt, of(1, 1), api.OK}, {1, math.MaxInt, of(1, math.MaxInt), api.OK},
		{-1, 1, api.Part{}, api.ErrLess}, {1, -1, api.Part{}, api.ErrLess}, {-1, -1, api.Part{}, api.ErrLess}, {-1, 0, api.Part{}, api.ErrLess},
		{0, math.MinInt, api.Part{}, api.ErrLess}, {math.MinInt, 1, api.Part{}, api.ErrLess}, {1, 0, api.Part{}, api.ErrZero}, {0, 0, api.Part{}, api.ErrZero},
	} {
		p, e := weight.Ratio(c.a, c.b)
		is(t, "Ratio", p, e, c.want, c.e)
	}
}
