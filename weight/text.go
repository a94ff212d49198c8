package weight

import (
	"strings"

	"cresset/api"
)

// maxText is how many bytes Read takes: somewhat more than a fraction of the greatest numbers has.
const maxText = 1300

// Read returns the fraction of a text.
func Read(s string) (api.Part, api.Errno) {
	if len(s) > maxText {
		return api.Part{}, api.ErrLong
	}
	if num, den, ok := strings.Cut(s, "/"); ok {
		return readQuotient(num, den)
	}
	if whole, places, ok := strings.Cut(s, "."); ok {
		return readDecimal(whole, places)
	}
	return readQuotient(s, "1")
}

// readQuotient returns the fraction of the texts ahead of a slash and behind it.
func readQuotient(num, den string) (api.Part, api.Errno) {
	switch {
	case !isNumber(num) || !isNumber(den):
		return api.Part{}, api.ErrForm
	case len(num) > api.MaxDigits || len(den) > api.MaxDigits:
		return api.Part{}, api.ErrRange
	}
	return Make(api.Nat(num), api.Nat(den))
}

// readDecimal returns the fraction of the texts ahead of a point and behind it.
func readDecimal(whole, places string) (api.Part, api.Errno) {
	if !isNumber(whole) || !isDigits(places) {
		return api.Part{}, api.ErrForm
	}
	digits := strings.TrimLeft(whole+places, "0")
	if len(digits) > api.MaxDigits {
		return api.Part{}, api.ErrRange
	}
	return attempt(func() api.Part {
		return fitting(lowest(parse(digits), powerOfTen(len(places)))).part()
	})
}

// Text returns a fraction as text.
func Text(p api.Part) string {
	switch {
	case Check(p) != api.OK:
		return ""
	case p.Den == "1":
		return string(p.Num)
	}
	return string(p.Num) + "/" + string(p.Den)
}

// Decimal returns the decimal numbers next to a fraction.
func Decimal(p api.Part, places int) (down, up string, e api.Errno) {
	r, e := open(p)
	if e != api.OK || places < 0 || places > api.MaxPlaces {
		return "", "", api.ErrArg
	}
	units, left := r.num.times(powerOfTen(places)).divide(r.den)
	down = pointed(units, places)
	if left.isZero() {
		return down, down, api.OK
	}
	return down, pointed(units.plus(ofWord(1)), places), api.OK
}

// pointed returns n units of the last one of some places as a decimal number.
func pointed(n natural, places int) string {
	text := n.digits()
	if places == 0 {
		return text
	}
	if missing := places + 1 - len(text); missing > 0 {
		text = strings.Repeat("0", missing) + text
	}
	point := len(text) - places
	return text[:point] + "." + text[point:]
}
