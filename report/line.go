package report

import (
	"strconv"
	"strings"

	"cresset/api"
)

// maxNumber is how many digits a number of a line may have.
const maxNumber = 10

// Print writes the line of a report.
func Print(r api.Report) string {
	if !CheckReport(r) {
		return ""
	}
	parts := []string{kindWords[r.Kind], "at", strconv.Itoa(r.Time), "by", r.Source}
	if r.About != "" {
		parts = append(parts, "about", r.About)
	}
	parts = append(parts, "in")
	for _, p := range r.Where {
		parts = append(parts, strconv.Itoa(p.X), strconv.Itoa(p.Y))
	}
	if r.Souls != -1 {
		parts = append(parts, "souls", strconv.Itoa(r.Souls))
	}
	parts = append(parts, "trust", strconv.Itoa(r.Trust))
	return strings.Join(parts, " ")
}

// Parse reads the line of a report.
func Parse(s string) (r api.Report, at int, e api.Errno) {
	if len(s) > api.MaxLine {
		return api.Report{}, 0, api.ErrLong
	}
	defer func() {
		if f, ok := recover().(fault); ok {
			r, at, e = api.Report{}, f.at, f.e
		}
	}()
	l := line{text: s, report: api.Report{Souls: -1}}
	for _, next := range sections() {
		l.readSection(next)
	}
	l.end()
	return l.report, 0, api.OK
}

// line is a line that is being read: where its next part begins (behind the text, if there is none), and the report so far.
type line struct {
	text   string
	at     int
	report api.Report
}

// fault is what is wrong with a line, and where. It is what the reading of a line panics with, and all that it does.
type fault struct {
	at int
	e  api.Errno
}

// section is a word of a line (none, if it is empty), whether it may be missing with all that belongs to it, and what reads the parts behind it.
type section struct {
	word string
	free bool
	read func(l *line)
}

// sections returns what a line consists of, in order.
func sections() []section {
	return []section{
		{"", false, (*line).readKind},
		{"at", false, func(l *line) { l.report.Time = l.number(0, api.MaxTime) }},
		{"by", false, func(l *line) { l.report.Source = l.name() }},
		{"about", true, func(l *line) { l.report.About = l.name() }},
		{"in", false, (*line).readWhere},
		{"souls", true, func(l *line) { l.report.Souls = l.number(0, api.MaxSouls) }},
		{"trust", false, func(l *line) { l.report.Trust = l.number(0, api.Whole) }},
	}
}

// readSection reads a section, unless it is missing and may be so.
func (l *line) readSection(s section) {
	switch {
	case s.word == "":
	case l.part() == s.word:
		l.next()
	case s.free:
		return
	default:
		l.fail(api.ErrForm)
	}
	s.read(l)
}

// fail ends the reading by a fault of the next part, or of the line's end if there is none.
func (l *line) fail(e api.Errno) {
	panic(fault{min(l.at, len(l.text)), e})
}

// isDone reports whether there is no next part.
func (l *line) isDone() bool {
	return l.at > len(l.text)
}

// part returns the next part. It is empty if there is none: like an empty part, that is nothing that may stand in a line.
func (l *line) part() string {
	if l.isDone() {
		return ""
	}
	part, _, _ := strings.Cut(l.text[l.at:], " ")
	return part
}

// next goes on behind the next part.
func (l *line) next() {
	l.at += len(l.part()) + 1
}

// number reads a number from low to high.
func (l *line) number(low, high int) int {
	digits := strings.TrimPrefix(l.part(), "-")
	if !isDigits(digits) || len(digits) > maxNumber || l.part() == "-0" {
		l.fail(api.ErrForm)
	}
	n, _ := strconv.Atoi(l.part())
	if !isFrom(n, low, high) {
		l.fail(api.ErrRange)
	}
	l.next()
	return n
}

// isDigits reports whether s is one digit or more, without leading zeros.
func isDigits(s string) bool {
	for i := range len(s) {
		if !isDigit(s[i]) {
			return false
		}
	}
	return s == "0" || s != "" && s[0] != '0'
}

// name reads a name.
func (l *line) name() string {
	name := l.part()
	if !isName(name) {
		l.fail(api.ErrForm)
	}
	l.next()
	return name
}

func (l *line) readKind() {
	for kind, word := range kindWords {
		if isKind(kind) && word == l.part() {
			l.report.Kind = kind
			l.next()
			return
		}
	}
	l.fail(api.ErrForm)
}

func (l *line) readWhere() {
	for {
		if len(l.report.Where) == api.MaxCorners {
			l.fail(api.ErrLong)
		}
		x := l.number(-api.MaxPlace, api.MaxPlace)
		y := l.number(-api.MaxPlace, api.MaxPlace)
		l.report.Where = append(l.report.Where, api.Spot{X: x, Y: y})
		if l.isDone() || l.part() == "souls" || l.part() == "trust" {
			return
		}
	}
}

// end examines what follows all parts, and what they make together.
func (l *line) end() {
	if !l.isDone() {
		l.fail(api.ErrForm)
	}
	if !CheckReport(l.report) {
		l.fail(api.ErrArg)
	}
}
