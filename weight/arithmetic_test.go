package weight_test

import (
	"math/big"
	"math/rand"
	"testing"

	"cresset/api"
	"cresset/weight"
)

type binary func(a, b api.Part) (api.Part, api.Errno)

// P1.3
func TestArithmetic(t *testing.T) {
	none := api.Part{}
	for _, c := range []struct {
		what string
		do   binary
		a, b api.Part
		want api.Part
		e    api.Errno
	}{
		{"Add", weight.Add, of(1, 2), of(1, 3), of(5, 6), api.OK},
		{"Add", weight.Add, of(1, 6), of(1, 3), of(1, 2), api.OK},
		{"Add", weight.Add, of(1, 2), of(1, 2), of(1, 1), api.OK},
		{"Add", weight.Add, of(0, 1), of(0, 1), of(0, 1), api.OK},
		{"Add", weight.Add, of(0, 1), of(3, 7), of(3, 7), api.OK},
		{"Add", weight.Add, whole(plus(most, -1)), of(1, 1), whole(most), api.OK},
		{"Add", weight.Add, whole(most), of(0, 1), whole(most), api.OK},
		{"Add", weight.Add, whole(most), of(1, 1), none, api.ErrRange},
		{"Add", weight.Add, whole(most), whole(most), none, api.ErrRange},
		{"Add", weight.Add, part("1", ten(599)), of(1, 3), part("1"+zeros(598)+"3", "3"+zeros(599)), api.OK},
		{"Add", weight.Add, part("1", ten(599)), of(1, 11), none, api.ErrRange},
		{"Add", weight.Add, part("1", "2"+zeros(599)), part("1", "2"+zeros(599)), part("1", ten(599)), api.OK},
		{"Sub", weight.Sub, of(1, 2), of(1, 3), of(1, 6), api.OK},
		{"Sub", weight.Sub, of(1, 3), of(1, 2), none, api.ErrLess},
		{"Sub", weight.Sub, of(1, 3), of(1, 3), of(0, 1), api.OK},
		{"Sub", weight.Sub, of(0, 1), of(0, 1), of(0, 1), api.OK},
		{"Sub", weight.Sub, of(5, 6), of(1, 3), of(1, 2), api.OK},
		{"Sub", weight.Sub, whole(ten(599)), of(1, 1), whole(most[1:]), api.OK},
		{"Sub", weight.Sub, of(1, 1), part("1", most), part(plus(most, -1), most), api.OK},
		{"Sub", weight.Sub, of(1, 3), part("1", ten(599)), part(plus(ten(599), -3), "3"+zeros(599)), api.OK},
		{"Sub", weight.Sub, of(1, 11), part("1", ten(599)), none, api.ErrRange},
		{"Sub", weight.Sub, part("1", ten(599)), of(1, 11), none, api.ErrLess},
		{"Mul", weight.Mul, of(2, 3), of(3, 4), of(1, 2), api.OK},
		{"Mul", weight.Mul, of(0, 1), part("1", most), of(0, 1), api.OK},
		{"Mul", weight.Mul, part(most, "17"), of(0, 1), of(0, 1), api.OK},
		{"Mul", weight.Mul, of(7, 5), of(5, 7), of(1, 1), api.OK},
		{"Mul", weight.Mul, whole(ten(299)), whole(ten(300)), whole(ten(599)), api.OK},
		{"Mul", weight.Mul, whole(ten(300)), whole(ten(300)), none, api.ErrRange},
		{"Mul", weight.Mul, part("1", ten(299)), part("1", ten(300)), part("1", ten(599)), api.OK},
		{"Mul", weight.Mul, part("1", ten(300)), part("1", ten(300)), none, api.ErrRange},
		{"Mul", weight.Mul, part("3", ten(599)), part(ten(599), "3"), of(1, 1), api.OK},
		{"Mul", weight.Mul, whole(power(2, 1000)), whole(power(2, 993)), whole(power(2, 1993)), api.OK},
		{"Mul", weight.Mul, whole(power(2, 1000)), whole(power(2, 994)), none, api.ErrRange},
		{"Div", weight.Div, of(1, 2), of(3, 4), of(2, 3), api.OK},
		{"Div", weight.Div, of(3, 4), of(0, 1), none, api.ErrZero},
		{"Div", weight.Div, of(0, 1), of(0, 1), none, api.ErrZero},
		{"Div", weight.Div, whole(most), of(0, 1), none, api.ErrZero},
		{"Div", weight.Div, of(0, 1), of(3, 4), of(0, 1), api.OK},
		{"Div", weight.Div, whole(most), whole(most), of(1, 1), api.OK},
		{"Div", weight.Div, of(1, 1), part("17", most), part(most, "17"), api.OK},
		{"Div", weight.Div, whole(ten(300)), part("1", ten(299)), whole(ten(599)), api.OK},
		{"Div", weight.Div, whole(ten(300)), part("1", ten(300)), none, api.ErrRange},
	} {
		p, e := c.do(c.a, c.b)
		is(t, c.what, p, e, c.want, c.e)
	}
}

// P1.3
func TestArithmeticOfWrongParts(t *testing.T) {
	for _, p := range wrongParts() {
		for _, do := range []binary{weight.Add, weight.Sub, weight.Mul, weight.Div} {
			for _, other := range []api.Part{of(0, 1), whole(most)} { // ahead of ErrZero, ErrLess and ErrRange
				got, e := do(p, other)
				is(t, "wrong first", got, e, api.Part{}, api.ErrArg)
				got, e = do(other, p)
				is(t, "wrong second", got, e, api.Part{}, api.ErrArg)
			}
		}
		got, e := weight.Not(p)
		is(t, "Not", got, e, api.Part{}, api.ErrArg)
		if weight.Compare(p, of(1, 2)) != 0 || weight.Compare(of(1, 2), p) != 0 || weight.Compare(p, p) != 0 {
			t.Errorf("%.80q compares to something", p)
		}
	}
}

// P1.3
func TestNot(t *testing.T) {
	for _, c := range []struct {
		p, want api.Part
		e       api.Errno
	}{
		{of(3, 10), of(7, 10), api.OK}, {of(0, 1), of(1, 1), api.OK}, {of(1, 1), of(0, 1), api.OK}, {of(1, 2), of(1, 2), api.OK},
		{part("1", most), part(plus(most, -1), most), api.OK}, {of(11, 10), api.Part{}, api.ErrLess}, {of(2, 1), api.Part{}, api.ErrLess},
		{whole(most), api.Part{}, api.ErrLess}, {part(most, plus(most, -1)), api.Part{}, api.ErrLess},
	} {
		p, e := weight.Not(c.p)
		is(t, "Not", p, e, c.want, c.e)
	}
}

// P1.3
func TestCompare(t *testing.T) {
	for _, c := range []struct {
		a, b api.Part
		want int
	}{
		{of(1, 3), of(1, 2), -1}, {of(1, 2), of(1, 3), 1}, {of(2, 3), of(2, 3), 0}, {of(0, 1), of(0, 1), 0}, {of(0, 1), part("1", most), -1}, {whole(most), part(most, "2"), 1},
		{part(plus(most, -1), most), part(plus(most, -2), plus(most, -1)), 1}, {of(1, 3), of(2, 6), 0},
		{of(2, 1), of(10, 1), -1}, {of(9, 1), of(1, 9), 1}, {whole("18446744073709551616"), whole("18446744073709551615"), 1},
	} {
		if got := weight.Compare(c.a, c.b); got != c.want {
			t.Errorf("%.80q compares to %.80q as %d", c.a, c.b, got)
		}
	}
}

// exactly checks a result against the exact one.
func exactly(t *testing.T, what string, p api.Part, e api.Errno, exact *big.Rat) {
	t.Helper()
	if fits(exact) {
		is(t, what, p, e, partOf(exact), api.OK)
	} else {
		is(t, what, p, e, api.Part{}, api.ErrRange)
	}
}

// P1.3
func TestArithmeticOfSome(t *testing.T) {
	random := rand.New(rand.NewSource(4))
	for i := range 6000 {
		digits := []int{5, 20, 40, 150, 300, 320, api.MaxDigits}[i%7]
		a, b := some(random, digits), some(random, digits)
		if i%3 == 0 { // so that there is much to cancel
			b = api.Part{Num: b.Num, Den: a.Den}
			b, _ = weight.Make(b.Num, b.Den)
		}
		x, y := ratOf(a), ratOf(b)
		p, e := weight.Add(a, b)
		exactly(t, "Add", p, e, new(big.Rat).Add(x, y))
		p, e = weight.Mul(a, b)
		exactly(t, "Mul", p, e, new(big.Rat).Mul(x, y))
		if p, e = weight.Sub(a, b); x.Cmp(y) < 0 {
			is(t, "Sub", p, e, api.Part{}, api.ErrLess)
		} else {
			exactly(t, "Sub", p, e, new(big.Rat).Sub(x, y))
		}
		if p, e = weight.Div(a, b); y.Sign() == 0 {
			is(t, "Div", p, e, api.Part{}, api.ErrZero)
		} else {
			exactly(t, "Div", p, e, new(big.Rat).Quo(x, y))
		}
		if got := weight.Compare(a, b); got != x.Cmp(y) {
			t.Errorf("%q compares to %q as %d", a, b, got)
		}
		if p, e = weight.Not(a); x.Cmp(big.NewRat(1, 1)) > 0 {
			is(t, "Not", p, e, api.Part{}, api.ErrLess)
		} else {
			exactly(t, "Not", p, e, new(big.Rat).Sub(big.NewRat(1, 1), x))
		}
	}
}
