package weight_test

import (
	"math/big"
	"math/rand"
	"strings"
	"testing"

	"cresset/api"
	"cresset/weight"
)

// zeros returns so many zeros.
func zeros(n int) string {
	return strings.Repeat("0", n)
}

// P1.2
func TestText(t *testing.T) {
	for _, c := range []struct {
		p    api.Part
		want string
	}{{of(0, 1), "0"}, {of(1, 1), "1"}, {of(12, 1), "12"}, {of(1, 4), "1/4"}, {of(7, 2), "7/2"}, {whole(most), most}, {part(most, ten(599)), most + "/" + ten(599)}} {
		if s := weight.Text(c.p); s != c.want {
			t.Errorf("%.80q has the text %.80q", c.p, s)
		}
	}
	for _, p := range wrongParts() {
		if s := weight.Text(p); s != "" {
			t.Errorf("%.80q has the text %.80q", p, s)
		}
	}
}

// P1.2
func TestRead(t *testing.T) {
	for _, c := range []struct {
		s    string
		want api.Part
	}{
		{"0.25", of(1, 4)}, {"2/4", of(1, 2)}, {"0", of(0, 1)}, {"12", of(12, 1)}, {"0/9", of(0, 1)}, {"4/2", of(2, 1)}, {"0.0", of(0, 1)}, {"0.000", of(0, 1)},
		{"1.0", of(1, 1)}, {"10.50", of(21, 2)}, {"0.125", of(1, 8)}, {"3.14", of(157, 50)}, {"0.01", of(1, 100)},
		{most, whole(most)}, {most + "/" + most, of(1, 1)}, {"1/" + most, part("1", most)}, {most + ".0", api.Part{}},
		{"9." + most[1:], part(most, ten(599))}, {"0." + most, api.Part{}}, {"0." + most[1:], part(most[1:], ten(599))},
		{"0." + zeros(1298), of(0, 1)}, {"0." + zeros(598) + "1", part("1", ten(599))}, {"0." + zeros(599) + "1", api.Part{}},
		{"0." + zeros(599) + "5", part("1", "2"+zeros(599))}, {"0." + zeros(600) + "5", api.Part{}},
		{"0." + zeros(1295) + "625", api.Part{}}, {"1." + zeros(599), of(1, 1)}, {"1." + zeros(600), api.Part{}}, {"0.5" + zeros(600), api.Part{}},
		{"0.5" + zeros(599), of(1, 2)}, {"0.0" + "5" + zeros(599), of(1, 20)}, {"0." + zeros(10) + most, api.Part{}},
	} {
		e := api.OK
		if c.want == (api.Part{}) {
			e = api.ErrRange
		}
		p, f := weight.Read(c.s)
		is(t, "Read of "+c.s[:min(len(c.s), 30)], p, f, c.want, e)
	}
}

// P1.2
func TestReadErrors(t *testing.T) {
	for _, s := range append(wrongNumbers, ".5", "1.", "-1", "+1", "1/2/3", "1.2.3", "1.5/2", "1/2.5", "/", ".", "/1", "1/", "1/ 2", "1 /2", "01.5", "00.5", "01/2", "1/02", "1/00", "1/-2", "1.-5", "1.5a", "1,5", "0x.1", "1.+5", "0.5 ", "1./2", "\n", "1\x00", "١/٢") {
		if s == "1"+most || len(s) > 1300 {
			continue
		}
		p, e := weight.Read(s)
		is(t, "Read of "+s, p, e, api.Part{}, api.ErrForm)
	}
	for _, c := range []struct {
		s string
		e api.Errno
	}{
		{"1/0", api.ErrZero}, {"0/0", api.ErrZero}, {most + "/0", api.ErrZero},
		{"1" + most, api.ErrRange}, {"1" + most + "/0", api.ErrRange}, {"1" + most + "/1" + most, api.ErrRange}, {"1/1" + most, api.ErrRange},
		{"1" + most + "/x", api.ErrForm}, {"1" + most + ".", api.ErrForm}, {"1" + most + ".5", api.ErrRange}, {strings.Repeat("1", 1300), api.ErrRange},
		{strings.Repeat("0", 1300), api.ErrForm}, {strings.Repeat("x", 1300), api.ErrForm},
		{strings.Repeat("1", 1301), api.ErrLong}, {strings.Repeat("x", 1301), api.ErrLong}, {"0." + zeros(1299), api.ErrLong},
	} {
		p, e := weight.Read(c.s)
		is(t, "Read of "+c.s[:min(len(c.s), 30)], p, e, api.Part{}, c.e)
	}
}

// P1.2
func TestDecimal(t *testing.T) {
	for _, c := range []struct {
		p        api.Part
		places   int
		down, up string
	}{
		{of(1, 3), 2, "0.33", "0.34"}, {of(5, 2), 0, "2", "3"}, {of(1, 8), 3, "0.125", "0.125"}, {of(1, 8), 2, "0.12", "0.13"}, {of(1, 8), 5, "0.12500", "0.12500"},
		{of(0, 1), 0, "0", "0"}, {of(0, 1), 3, "0.000", "0.000"}, {of(7, 1), 0, "7", "7"}, {of(7, 1), 2, "7.00", "7.00"},
		{of(1, 3), 0, "0", "1"}, {of(1, 1000), 2, "0.00", "0.01"}, {of(999, 1000), 2, "0.99", "1.00"}, {of(1999, 2), 0, "999", "1000"}, {of(100, 3), 1, "33.3", "33.4"},
		{whole(most), api.MaxPlaces, most + "." + zeros(100), most + "." + zeros(100)},
		{part("1", most), api.MaxPlaces, "0." + zeros(100), "0." + zeros(99) + "1"},
		{part(most, "2"), 1, "4" + most[1:] + ".5", "4" + most[1:] + ".5"}, {part(most, "2"), 0, "4" + most[1:], "5" + zeros(599)},
		{part(ten(599), "3"), api.MaxPlaces, strings.Repeat("3", 599) + "." + strings.Repeat("3", 100), strings.Repeat("3", 599) + "." + strings.Repeat("3", 99) + "4"},
	} {
		down, up, e := weight.Decimal(c.p, c.places)
		if down != c.down || up != c.up || e != api.OK {
			t.Errorf("%.80q with %d places: %.40s and %.40s, error %d", c.p, c.places, down, up, e)
		}
	}
	for _, places := range []int{-1, api.MaxPlaces + 1, 1 << 62, -1 << 63} {
		if down, up, e := weight.Decimal(of(1, 2), places); down != "" || up != "" || e != api.ErrArg {
			t.Errorf("%d places: %s and %s, error %d", places, down, up, e)
		}
	}
	for _, p := range wrongParts() {
		if down, up, e := weight.Decimal(p, 2); down != "" || up != "" || e != api.ErrArg {
			t.Errorf("%.80q: %s and %s, error %d", p, down, up, e)
		}
	}
}

// P1.2, P1.8
func TestDecimalOfSome(t *testing.T) {
	random := rand.New(rand.NewSource(2))
	for range 2000 {
		p, places := some(random, 1+random.Intn(api.MaxDigits)), random.Intn(api.MaxPlaces+1)
		down, up, e := weight.Decimal(p, places)
		if e != api.OK {
			t.Fatalf("%q with %d places has the error %d", p, places, e)
		}
		for _, s := range []string{down, up} {
			integer, behind, point := strings.Cut(s, ".")
			if weight.CheckNat(api.Nat(integer)) != api.OK || len(behind) != places || point != (places > 0) {
				t.Fatalf("%q with %d places: %s", p, places, s)
			}
		}
		low, _ := new(big.Rat).SetString(down)
		high, _ := new(big.Rat).SetString(up)
		exact := ratOf(p)
		apart := new(big.Rat).Sub(high, low)
		unit, _ := new(big.Rat).SetString("1/" + ten(places))
		if low.Cmp(exact) > 0 || high.Cmp(exact) < 0 || apart.Sign() != 0 && apart.Cmp(unit) != 0 || (apart.Sign() == 0) != (low.Cmp(exact) == 0) || low.Cmp(exact) != 0 && high.Cmp(exact) == 0 {
			t.Fatalf("%q with %d places: %s and %s", p, places, down, up)
		}
	}
}

// P1.2, P1.8
func TestReadOfText(t *testing.T) {
	random := rand.New(rand.NewSource(3))
	for range 2000 {
		p := some(random, 1+random.Intn(api.MaxDigits))
		read, e := weight.Read(weight.Text(p))
		is(t, "Read of Text", read, e, p, api.OK)
	}
}
