package incident

import (
	"cresset/api"
	"cresset/report"
)

// hour is how many seconds the drift of a book is told for.
const hour = 3600

// Compare returns what two reports are to each other.
func Compare(a, b api.Report, window, drift int) (int, api.Errno) {
	k := rules{window, drift}
	switch {
	case !report.CheckReport(a) || !report.CheckReport(b):
		return 0, api.ErrArg
	case !k.areValid():
		return 0, api.ErrRange
	}
	return k.compare(a, b), api.OK
}

// rules are those by which a book compares: within how many seconds reports can belong together, and how far something drifts (m in an hour).
type rules struct{ window, drift int }

func (k rules) areValid() bool {
	return 0 <= k.window && k.window <= api.MaxWindow && 0 <= k.drift && k.drift <= api.MaxDrift
}

// line is a line of the comparison: what two reports are to each other if it applies.
type line struct {
	what    int
	applies func(k rules, a, b api.Report) bool
}

// lines returns the lines of the comparison, of which the first one that applies counts.
func lines() [5]line {
	return [...]line{
		{api.SameOne, func(_ rules, a, b api.Report) bool { return areNamed(a, b) && a.About == b.About }},
		{api.OtherOne, func(_ rules, a, b api.Report) bool { return areNamed(a, b) && a.About != b.About }},
		{api.TooLate, func(k rules, a, b api.Report) bool { return !k.isSoon(a.Time, b.Time) }},
		{api.TooFar, rules.areFar},
		{api.Near, func(rules, api.Report, api.Report) bool { return true }},
	}
}

// compare returns what two valid reports are to each other.
func (k rules) compare(a, b api.Report) int {
	what := 0
search:
	for _, l := range lines() {
		if l.applies(k, a, b) {
			what = l.what
			break search
		}
	}
	return what
}

// areNamed reports whether it is known of both reports whom they are about.
func areNamed(a, b api.Report) bool {
	return a.About != "" && b.About != ""
}

// isSoon reports whether two times differ by at most the window.
func (k rules) isSoon(a, b int) bool {
	return difference(a, b) <= k.window
}

// areFar reports whether nothing could have drifted from the one report to the other one.
func (k rules) areFar(a, b api.Report) bool {
	metres := (k.drift*difference(a.Time, b.Time) + hour - 1) / hour
	return !areClose(a.Where, b.Where, metres)
}

func difference(a, b int) int {
	return max(a-b, b-a)
}

// box is the least box around an area, with sides along the coordinates.
type box struct{ least, greatest api.Spot }

func boxOf(area []api.Spot) box {
	b := box{area[0], area[0]}
	for _, p := range area {
		b.least = api.Spot{X: min(b.least.X, p.X), Y: min(b.least.Y, p.Y)}
		b.greatest = api.Spot{X: max(b.greatest.X, p.X), Y: max(b.greatest.Y, p.Y)}
	}
	return b
}

// areClose reports whether the gap between two valid areas is small enough, if one is grown by some metres.
func areClose(a, b []api.Spot, metres int) bool {
	one, other := boxOf(a), boxOf(b)
	return one.least.X-metres <= other.greatest.X && other.least.X <= one.greatest.X+metres &&
		one.least.Y-metres <= other.greatest.Y && other.least.Y <= one.greatest.Y+metres
}
