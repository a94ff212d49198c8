package weight_test

import (
	"math/big"
	"math/rand"
	"slices"
	"testing"

	"cresset/api"
	"cresset/weight"
)

// areParts checks a list of fractions and an error.
func areParts(t *testing.T, what string, got []api.Part, e api.Errno, want []api.Part, wantError api.Errno) {
	t.Helper()
	if !slices.Equal(got, want) || e != wantError {
		t.Errorf("%s: %.200q, error %d; want %.200q, error %d", what, got, e, want, wantError)
	}
}

// areIndices checks a list of indices and an error.
func areIndices(t *testing.T, what string, got []int, e api.Errno, want []int, wantError api.Errno) {
	t.Helper()
	if !slices.Equal(got, want) || e != wantError {
		t.Errorf("%s: %v, error %d; want %v, error %d", what, got, e, want, wantError)
	}
}

// repeated returns a list of n times p.
func repeated(p api.Part, n int) []api.Part {
	return slices.Repeat([]api.Part{p}, n)
}

// Two fractions whose denominators have no common divisor, and a product of 618 digits.
var (
	small  = part("1", power(2, 1100))
	little = part("1", power(3, 600))
	rest   = part(plus(power(2, 1100), -1), power(2, 1100))
)

// P1.4
func TestSum(t *testing.T) {
	for _, c := range []struct {
		l    []api.Part
		want api.Part
		e    api.Errno
	}{
		{nil, of(0, 1), api.OK}, {[]api.Part{}, of(0, 1), api.OK}, {parts(0, 0), of(0, 1), api.OK}, {[]api.Part{of(2, 3)}, of(2, 3), api.OK},
		{[]api.Part{of(1, 2), of(1, 3), of(1, 6)}, of(1, 1), api.OK}, {repeated(of(1, 512), api.MaxList), of(1, 1), api.OK},
		{[]api.Part{whole(most), of(0, 1)}, whole(most), api.OK}, {[]api.Part{of(0, 1), whole(most), of(1, 1)}, api.Part{}, api.ErrRange},
		{[]api.Part{small, rest, little}, part(plus(power(3, 600), 1), power(3, 600)), api.OK},
		{[]api.Part{small, little, rest}, api.Part{}, api.ErrRange}, // no sum on the way may be too great
		{repeated(whole(most), api.MaxList), api.Part{}, api.ErrRange},
	} {
		p, e := weight.Sum(c.l)
		is(t, "Sum", p, e, c.want, c.e)
	}
}

// P1.4
func TestShare(t *testing.T) {
	for _, c := range []struct {
		l, want []api.Part
		e       api.Errno
	}{
		{parts(1, 2, 3), []api.Part{of(1, 6), of(1, 3), of(1, 2)}, api.OK}, {parts(7), parts(1), api.OK}, {parts(0, 5), parts(0, 1), api.OK},
		{[]api.Part{of(1, 2), of(1, 4)}, []api.Part{of(2, 3), of(1, 3)}, api.OK}, {repeated(of(3, 1), api.MaxList), repeated(of(1, api.MaxList), api.MaxList), api.OK},
		{nil, nil, api.ErrNone}, {[]api.Part{}, nil, api.ErrNone}, {parts(0), nil, api.ErrNone}, {parts(0, 0, 0), nil, api.ErrNone},
		{[]api.Part{whole(most)}, parts(1), api.OK}, {[]api.Part{whole(most), of(1, 1)}, nil, api.ErrRange}, {[]api.Part{small, little, rest}, nil, api.ErrRange},
		{[]api.Part{whole(ten(300)), part("1", ten(300))}, nil, api.ErrRange},                                                      // the sum does not fit
		{[]api.Part{small, rest, whole(ten(300))}, nil, api.ErrRange},                                                              // the first share does not fit
		{[]api.Part{whole(plus(ten(300), 1)), rest, small}, nil, api.ErrRange},                                                     // a later one does not fit
		{[]api.Part{part("1", most), part(plus(most, -1), most)}, []api.Part{part("1", most), part(plus(most, -1), most)}, api.OK}, // the sum is 1
	} {
		l, e := weight.Share(c.l)
		areParts(t, "Share", l, e, c.want, c.e)
	}
}

// P1.5
func TestUpdate(t *testing.T) {
	half := of(1, 2)
	for _, c := range []struct {
		prior, like, want []api.Part
		evidence          api.Part
		e                 api.Errno
	}{
		{[]api.Part{half, half}, []api.Part{of(1, 4), of(3, 4)}, []api.Part{of(1, 4), of(3, 4)}, half, api.OK},
		{[]api.Part{half, half}, parts(1, 0), parts(1, 0), half, api.OK},
		{[]api.Part{of(1, 6), of(1, 3), half}, parts(1, 1, 1), []api.Part{of(1, 6), of(1, 3), half}, of(1, 1), api.OK},
		{parts(3), parts(5), parts(1), of(15, 1), api.OK},
		{[]api.Part{half}, parts(0), nil, api.Part{}, api.ErrNone}, {nil, nil, nil, api.Part{}, api.ErrNone}, {nil, []api.Part{}, nil, api.Part{}, api.ErrNone},
		{parts(1, 0), parts(0, 1), nil, api.Part{}, api.ErrNone},
		{parts(1), nil, nil, api.Part{}, api.ErrArg}, {nil, parts(1), nil, api.Part{}, api.ErrArg}, {parts(1, 2), parts(1, 2, 3), nil, api.Part{}, api.ErrArg},
		{[]api.Part{whole(most), of(0, 1)}, []api.Part{of(2, 1), of(0, 1)}, nil, api.Part{}, api.ErrRange}, // a product does not fit
		{[]api.Part{whole(most), of(1, 1)}, parts(1, 1), nil, api.Part{}, api.ErrRange},                    // the evidence does not fit
		{[]api.Part{small, rest, whole(ten(300))}, parts(1, 1, 1), nil, api.Part{}, api.ErrRange},          // a share does not fit
		{[]api.Part{whole(ten(300)), of(1, 1)}, []api.Part{part("1", ten(300)), of(3, 1)}, []api.Part{of(1, 4), of(3, 4)}, of(4, 1), api.OK},
		{repeated(of(1, 512), api.MaxList), repeated(half, api.MaxList), repeated(of(1, 512), api.MaxList), half, api.OK},
	} {
		after, evidence, e := weight.Update(c.prior, c.like)
		areParts(t, "Update", after, e, c.want, c.e)
		is(t, "evidence", evidence, e, c.evidence, c.e)
	}
}

// P1.5
func TestMean(t *testing.T) {
	for _, c := range []struct {
		weights, values []api.Part
		want            api.Part
		e               api.Errno
	}{
		{[]api.Part{of(1, 4), of(3, 4)}, parts(8, 4), of(5, 1), api.OK}, {nil, nil, of(0, 1), api.OK}, {parts(0), parts(7), of(0, 1), api.OK},
		{[]api.Part{of(1, 2), of(1, 3)}, []api.Part{of(1, 5), of(1, 7)}, of(31, 210), api.OK},
		{parts(1), nil, api.Part{}, api.ErrArg}, {nil, parts(1), api.Part{}, api.ErrArg}, {parts(1, 2, 3), parts(1, 2), api.Part{}, api.ErrArg},
		{[]api.Part{whole(most)}, parts(2), api.Part{}, api.ErrRange}, {[]api.Part{whole(most), of(1, 1)}, parts(1, 1), api.Part{}, api.ErrRange},
		{[]api.Part{small, little, rest}, parts(1, 1, 1), api.Part{}, api.ErrRange},
		{repeated(of(1, 2), api.MaxList), repeated(of(1, 256), api.MaxList), of(1, 1), api.OK},
	} {
		p, e := weight.Mean(c.weights, c.values)
		is(t, "Mean", p, e, c.want, c.e)
	}
}

// P1.6
func TestRank(t *testing.T) {
	first := make([]int, api.MaxList)
	for i := range first {
		first[i] = i
	}
	for _, c := range []struct {
		l    []api.Part
		want []int
	}{
		{[]api.Part{of(1, 3), of(1, 2), of(1, 3)}, []int{1, 0, 2}}, {nil, nil}, {[]api.Part{}, nil}, {parts(7), []int{0}}, {parts(0, 0, 1, 0), []int{2, 0, 1, 3}},
		{parts(1, 2, 3, 4), []int{3, 2, 1, 0}}, {parts(4, 3, 2, 1), []int{0, 1, 2, 3}}, {parts(2, 10, 9), []int{1, 2, 0}},
		{[]api.Part{part(plus(most, -2), plus(most, -1)), part(plus(most, -1), most), whole(most)}, []int{2, 1, 0}},
		{repeated(of(1, 3), api.MaxList), first},
	} {
		order, e := weight.Rank(c.l)
		areIndices(t, "Rank", order, e, c.want, api.OK)
	}
	random := rand.New(rand.NewSource(5))
	for n := range 60 {
		var l []api.Part
		for range n {
			l = append(l, of(random.Int63n(5), 1+random.Int63n(5)))
		}
		order, e := weight.Rank(l)
		want := make([]int, n)
		for i := range want {
			want[i] = i
		}
		slices.SortStableFunc(want, func(i, k int) int { return ratOf(l[k]).Cmp(ratOf(l[i])) })
		areIndices(t, "Rank", order, e, want, api.OK)
	}
}

// P1.6
func TestCover(t *testing.T) {
	for _, c := range []struct {
		l    []api.Part
		p    api.Part
		want int
		e    api.Errno
	}{
		{[]api.Part{of(1, 3), of(1, 2), of(1, 3)}, of(5, 6), 2, api.OK}, {[]api.Part{of(1, 3), of(1, 2), of(1, 3)}, of(7, 6), 3, api.OK},
		{[]api.Part{of(1, 3), of(1, 2), of(1, 3)}, of(1, 2), 1, api.OK}, {[]api.Part{of(1, 3), of(1, 2), of(1, 3)}, of(51, 100), 2, api.OK},
		{[]api.Part{of(1, 3), of(1, 2), of(1, 3)}, of(8, 6), 0, api.ErrNone},
		{nil, of(0, 1), 0, api.OK}, {parts(0, 0), of(0, 1), 0, api.OK}, {[]api.Part{whole(most), of(1, 1)}, of(0, 1), 0, api.OK},
		{nil, of(1, 6), 0, api.ErrNone}, {parts(0, 0), part("1", most), 0, api.ErrNone}, {parts(1, 5, 2), of(5, 1), 1, api.OK}, {parts(1, 5, 2), of(8, 1), 3, api.OK},
		{[]api.Part{of(1, 1), whole(most)}, whole(most), 1, api.OK}, // ahead of the sum that does not fit
		{[]api.Part{whole(plus(most, -1)), of(1, 1), of(1, 1)}, whole(most), 2, api.OK},
		{[]api.Part{whole(plus(most, -1)), whole(plus(most, -1))}, whole(most), 0, api.ErrRange},
		{[]api.Part{small, little}, of(1, 1), 0, api.ErrRange}, {[]api.Part{small, little}, little, 1, api.OK},
		{repeated(of(1, 512), api.MaxList), of(1, 1), api.MaxList, api.OK},
	} {
		n, e := weight.Cover(c.l, c.p)
		if n != c.want || e != c.e {
			t.Errorf("%.100q covers %.40q with %d, error %d; want %d, error %d", c.l, c.p, n, e, c.want, c.e)
		}
	}
}

// listErrors returns what each function of lists returns for a list, and for two of them: all errors, and whether all other results are zero values.
func listErrors(a, b []api.Part) (of, ofBoth []api.Errno, empty bool) {
	sum, e1 := weight.Sum(a)
	share, e2 := weight.Share(a)
	order, e3 := weight.Rank(a)
	n, e4 := weight.Cover(a, sum)
	m, e5 := weight.Cover(a, api.Part{Num: "0", Den: "1"})
	after, evidence, e6 := weight.Update(a, b)
	mean, e7 := weight.Mean(a, b)
	empty = sum == api.Part{} && share == nil && order == nil && n == 0 && m == 0 && after == nil && evidence == api.Part{} && mean == api.Part{}
	return []api.Errno{e1, e2, e3, e4, e5}, []api.Errno{e6, e7}, empty
}

// P1.4, P1.5, P1.6
func TestErrorsOfLists(t *testing.T) {
	wrong := part("2", "4")
	long := repeated(of(1, 1), api.MaxList+1)
	longAndWrong := repeated(wrong, api.MaxList+1)
	great := []api.Part{whole(most), whole(most), wrong}
	for _, c := range []struct {
		what string
		a, b []api.Part
		e    api.Errno
	}{
		{"long", long, long, api.ErrLong}, {"long and short", long, parts(1), api.ErrLong}, {"long and wrong", longAndWrong, longAndWrong, api.ErrLong},
		{"wrong", []api.Part{wrong}, []api.Part{wrong}, api.ErrArg}, {"zero values", make([]api.Part, 3), make([]api.Part, 3), api.ErrArg},
		{"wrong behind a sum that does not fit", great, great, api.ErrArg}, {"wrong, of another length", []api.Part{of(1, 1), wrong}, parts(1), api.ErrArg},
		{"wrong at the end", append(parts(1, 2), api.Part{Num: "1"}), parts(1, 2, 3), api.ErrArg},
		{"wrong and zero", append(parts(0), wrong), parts(0, 0), api.ErrArg},
	} {
		of, ofBoth, empty := listErrors(c.a, c.b)
		for _, e := range append(of, ofBoth...) {
			if e != c.e {
				t.Errorf("%s: the errors are %d, %d", c.what, of, ofBoth)
			}
		}
		if !empty {
			t.Errorf("%s: a result beside the error is not the zero value", c.what)
		}
	}
	for _, c := range []struct {
		what string
		a, b []api.Part
		e    api.Errno
	}{
		{"short and long", parts(1), long, api.ErrLong}, {"wrong and long", []api.Part{wrong}, long, api.ErrLong}, {"right and wrong", parts(1), []api.Part{wrong}, api.ErrArg},
		{"a great product and wrong", []api.Part{whole(most), of(1, 1)}, []api.Part{whole(most), wrong}, api.ErrArg}, {"a great product and a short list", []api.Part{whole(most), of(1, 1)}, []api.Part{whole(most)}, api.ErrArg},
		{"zeros and a great product", []api.Part{of(0, 1), whole(most)}, []api.Part{of(0, 1), whole(most)}, api.ErrRange},
	} {
		after, evidence, e := weight.Update(c.a, c.b)
		mean, f := weight.Mean(c.a, c.b)
		if e != c.e || f != c.e || after != nil || evidence != (api.Part{}) || mean != (api.Part{}) {
			t.Errorf("%s: the errors are %d, %d; or a result beside them is not the zero value", c.what, e, f)
		}
	}
	if n, e := weight.Cover(long, wrong); n != 0 || e != api.ErrLong {
		t.Errorf("Cover of a long list and a wrong fraction: %d, error %d", n, e)
	}
	for _, p := range wrongParts() {
		if n, e := weight.Cover(parts(1, 2), p); n != 0 || e != api.ErrArg {
			t.Errorf("Cover of a wrong fraction: %d, error %d", n, e)
		}
	}
}

// P1.4, P1.5
func TestListsOfSome(t *testing.T) {
	random := rand.New(rand.NewSource(6))
	for i := range 300 {
		n, digits := 1+random.Intn(8), []int{3, 20, 60, 150}[i%4]
		a, b := someList(random, n, digits), someList(random, n, digits)
		sum, joint := new(big.Rat), new(big.Rat)
		fit, jointFit := true, true
		for k := range a {
			sum.Add(sum, ratOf(a[k]))
			product := new(big.Rat).Mul(ratOf(a[k]), ratOf(b[k]))
			joint.Add(joint, product)
			fit, jointFit = fit && fits(sum), jointFit && fits(product) && fits(joint)
		}
		p, e := weight.Sum(a)
		shouldBe(t, "Sum", p, e, sum, fit)
		p, e = weight.Mean(a, b)
		shouldBe(t, "Mean", p, e, joint, jointFit)
		shares, e := weight.Share(a)
		for k := range shares {
			exactly(t, "Share", shares[k], e, new(big.Rat).Quo(ratOf(a[k]), sum))
		}
		after, evidence, e := weight.Update(a, b)
		for k := range after {
			exactly(t, "Update", after[k], e, new(big.Rat).Quo(new(big.Rat).Mul(ratOf(a[k]), ratOf(b[k])), joint))
			shouldBe(t, "evidence", evidence, e, joint, jointFit)
		}
	}
}

// shouldBe checks a result that is exact, or ErrRange.
func shouldBe(t *testing.T, what string, p api.Part, e api.Errno, exact *big.Rat, fit bool) {
	t.Helper()
	if fit {
		is(t, what, p, e, partOf(exact), api.OK)
	} else {
		is(t, what, p, e, api.Part{}, api.ErrRange)
	}
}
