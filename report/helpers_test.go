package report_test

import (
	"math/rand"
	"slices"
	"strings"

	"cresset/api"
)

const (
	place = api.MaxPlace
	big   = 1 << 62
	small = -1 << 63
)

// longName is the longest name.
var longName = "a" + strings.Repeat("9", api.MaxName-1)

// wrongNames are not names.
var wrongNames = []string{
	longName + "a", "A", "9", "-", "-a", "9a", "a b", "a_", "aB", "a\n", "a\x00", "\xff", "ä", "aä", " a", "a ", "a`", "a{", "a/", "a:",
}

// wrongNumbers do not have the form of a number.
var wrongNumbers = []string{
	"", "-", "--1", "+1", "00", "01", "-0", "-01", "1.0", "1e3", "0x1", "1-", "a", "12345678901", "-12345678901", "00000000001", "1_0", "१", "\x00", "1\t",
}

// spots returns the places with these coordinates.
func spots(coordinates ...int) []api.Spot {
	var l []api.Spot
	for i := 0; i+1 < len(coordinates); i += 2 {
		l = append(l, api.Spot{X: coordinates[i], Y: coordinates[i+1]})
	}
	return l
}

// same reports whether two reports are equal.
func same(a, b api.Report) bool {
	return slices.Equal(a.Where, b.Where) && a.Kind == b.Kind && a.Time == b.Time && a.Source == b.Source && a.About == b.About && a.Souls == b.Souls && a.Trust == b.Trust
}

// isZero reports whether r is the zero value.
func isZero(r api.Report) bool {
	return same(r, api.Report{}) && len(r.Where) == 0
}

// call returns a valid report.
func call() api.Report {
	return api.Report{Kind: api.Call, Time: 60, Source: "kestrel", Where: spots(0, 0, 10, 0, 0, 10), Souls: 4, Trust: 700}
}

// changed returns a valid report with a change.
func changed(change func(r *api.Report)) api.Report {
	r := call()
	change(&r)
	return r
}

// twelve returns an area with the greatest number of corners.
func twelve() []api.Spot {
	return spots(3, 0, 4, 0, 6, 1, 7, 3, 7, 4, 6, 6, 4, 7, 3, 7, 1, 6, 0, 4, 0, 3, 1, 1)
}

// hull returns the corners of the convex hull, counterclockwise: none of them is on a line between others.
func hull(l []api.Spot) []api.Spot {
	l = slices.Clone(l)
	slices.SortFunc(l, func(a, b api.Spot) int {
		if a.X != b.X {
			return a.X - b.X
		}
		return a.Y - b.Y
	})
	l = slices.Compact(l)
	if len(l) < 3 {
		return l
	}
	half := func(l []api.Spot) []api.Spot {
		var h []api.Spot
		for _, p := range l {
			for len(h) > 1 && leftOf(h[len(h)-2], h[len(h)-1], p) <= 0 {
				h = h[:len(h)-1]
			}
			h = append(h, p)
		}
		return h[:len(h)-1]
	}
	lower := half(l)
	slices.Reverse(l)
	return append(lower, half(l)...)
}

// leftOf is above 0 if p is to the left of the way from a to b, and 0 if it is on their line.
func leftOf(a, b, p api.Spot) int {
	return (b.X-a.X)*(p.Y-a.Y) - (b.Y-a.Y)*(p.X-a.X)
}

// rotated returns a list that begins with its element k.
func rotated(l []api.Spot, k int) []api.Spot {
	return append(slices.Clone(l[k:]), l[:k]...)
}

// someArea returns a valid area.
func someArea(random *rand.Rand) []api.Spot {
	if random.Intn(5) == 0 {
		l, scale := twelve(), 1+random.Intn(2*place/7)
		for i, p := range l {
			l[i] = api.Spot{X: p.X*scale - place, Y: p.Y*scale - place}
		}
		return l
	}
	size := []int{2, 10, 1000, place}[random.Intn(4)]
	l := make([]api.Spot, 1+random.Intn(14))
	for i := range l {
		l[i] = api.Spot{X: random.Intn(2*size+1) - size, Y: random.Intn(2*size+1) - size}
	}
	l = hull(l)
	return l[:min(len(l), api.MaxCorners)]
}

// someName returns a name.
func someName(random *rand.Rand) string {
	const letters = "abcdefghijklmnopqrstuvwxyz0123456789-"
	name := []byte{letters[random.Intn(26)]}
	for range random.Intn(api.MaxName) {
		name = append(name, letters[random.Intn(len(letters))])
	}
	if random.Intn(4) == 0 { // a word of the line is a name, too
		return []string{"at", "by", "about", "in", "souls", "trust", "call"}[random.Intn(7)]
	}
	return string(name)
}

// someReport returns a valid report.
func someReport(random *rand.Rand) api.Report {
	r := api.Report{
		Kind: 1 + random.Intn(4), Time: random.Intn(api.MaxTime + 1), Source: someName(random),
		Where: someArea(random), Souls: random.Intn(api.MaxSouls+2) - 1, Trust: random.Intn(api.Whole + 1),
	}
	if r.Kind == api.Beacon || r.Kind == api.Missing || random.Intn(2) == 0 {
		r.About = someName(random)
	}
	if random.Intn(3) == 0 {
		r.Souls = -1
	}
	return r
}
