package report_test

import (
	"math/rand"
	"strconv"
	"strings"
	"testing"

	"cresset/api"
	"cresset/report"
)

// P2.2, P2.3
func TestLines(t *testing.T) {
	for _, c := range []struct {
		line string
		r    api.Report
	}{
		{"call at 60 by kestrel in 0 0 10 0 0 10 souls 4 trust 700", call()},
		{"flare at 5 by x in 1 2 trust 9", api.Report{Kind: api.Flare, Time: 5, Source: "x", Where: spots(1, 2), Souls: -1, Trust: 9}},
		{"beacon at 0 by x about b1 in -1 -2 trust 0", api.Report{Kind: api.Beacon, Source: "x", About: "b1", Where: spots(-1, -2), Souls: -1}},
		{"missing at 1073741824 by x about y in 16777216 -16777216 souls 10000 trust 1000", api.Report{Kind: api.Missing, Time: api.MaxTime, Source: "x", About: "y", Where: spots(place, -place), Souls: api.MaxSouls, Trust: api.Whole}},
		{"call at 1 by x in 0 0 -3 4 souls 0 trust 1", api.Report{Kind: api.Call, Time: 1, Source: "x", Where: spots(0, 0, -3, 4), Trust: 1}},
		{"call at 1 by about about in in 0 0 trust 1", api.Report{Kind: api.Call, Time: 1, Source: "about", About: "in", Where: spots(0, 0), Souls: -1, Trust: 1}},
		{"call at 1 by in in 0 0 trust 1", api.Report{Kind: api.Call, Time: 1, Source: "in", Where: spots(0, 0), Souls: -1, Trust: 1}},
		{"call at 1 by a about about in 0 0 trust 1", api.Report{Kind: api.Call, Time: 1, Source: "a", About: "about", Where: spots(0, 0), Souls: -1, Trust: 1}},
		{"call at 1 by x in 3 0 4 0 6 1 7 3 7 4 6 6 4 7 3 7 1 6 0 4 0 3 1 1 souls 2 trust 1", api.Report{Kind: api.Call, Time: 1, Source: "x", Where: twelve(), Souls: 2, Trust: 1}},
		{"call at 1 by x in 3 0 4 0 6 1 7 3 7 4 6 6 4 7 3 7 1 6 0 4 0 3 1 1 trust 1", api.Report{Kind: api.Call, Time: 1, Source: "x", Where: twelve(), Souls: -1, Trust: 1}},
		{"flare at 5 by " + longName + " about " + longName + " in 1 2 trust 9", api.Report{Kind: api.Flare, Time: 5, Source: longName, About: longName, Where: spots(1, 2), Souls: -1, Trust: 9}},
	} {
		if line := report.Print(c.r); line != c.line {
			t.Errorf("%v is printed as %q; want %q", c.r, line, c.line)
		}
		if r, at, e := report.Parse(c.line); !same(r, c.r) || at != 0 || e != api.OK {
			t.Errorf("%q is %v, error %d at %d; want %v", c.line, r, e, at, c.r)
		}
	}
}

// refuse checks that a line is refused.
func refuse(t *testing.T, line string, at int, want api.Errno) {
	t.Helper()
	if r, i, e := report.Parse(line); !isZero(r) || i != at || e != want {
		t.Errorf("%q is %v, error %d at %d; want error %d at %d", line, r, e, i, want, at)
	}
}

// refuseAt checks that a line is refused at the byte before which a | stands.
func refuseAt(t *testing.T, marked string, want api.Errno) {
	t.Helper()
	before, behind, _ := strings.Cut(marked, "|")
	refuse(t, before+behind, len(before), want)
}

// P2.3: what must stand at each part, and what does not.
func TestParseForm(t *testing.T) {
	for _, marked := range []string{
		"flare at 5 by x in 1 |trust 9", "flare at |05 by x", // the examples
		"|", "| ", "|x", "|Call at 5 by x in 1 2 trust 9", "|calls at 5 by x in 1 2 trust 9", "|call\tat 5 by x in 1 2 trust 9", "| call at 5 by x in 1 2 trust 9",
		"call|", "call |", "call | at 5", "call |by 5", "call |At 5", "call |ats 5", "call |5",
		"call at|", "call at |", "call at |by", "call at | 5 by x",
		"call at 5|", "call at 5 |", "call at 5 |at", "call at 5 | by x", "call at 5 |in 1 2 trust 9",
		"call at 5 by|", "call at 5 by |", "call at 5 by | x",
		"call at 5 by x|", "call at 5 by x |", "call at 5 by x | in", "call at 5 by x |abut y in 1 2 trust 9", "call at 5 by x |souls 5", "call at 5 by x |trust 5", "call at 5 by x |1 2 trust 9",
		"call at 5 by x about|", "call at 5 by x about |", "call at 5 by x about y|", "call at 5 by x about in |1 2 trust 9", "call at 5 by x about y |about z in 1 2 trust 9", "call at 5 by x about y |trust 5",
		"call at 5 by x in|", "call at 5 by x in |", "call at 5 by x in |souls 5 trust 9", "call at 5 by x in |trust 9", "call at 5 by x in |x", "call at 5 by x in | 1 2 trust 9",
		"call at 5 by x in 1|", "call at 5 by x in 1 |", "call at 5 by x in 1 |souls 9", "call at 5 by x in 1 | 2 trust 9",
		"call at 5 by x in 1 2|", "call at 5 by x in 1 2 |", "call at 5 by x in 1 2 |x", "call at 5 by x in 1 2 | trust 9", "call at 5 by x in 1 2 |in 1 2 trust 9", "call at 5 by x in 1 2 |Trust 9",
		"call at 5 by x in 1 2 3|", "call at 5 by x in 1 2 3 |trust 9", "call at 5 by x in 1 2 3 |souls 9", "call at 5 by x in 1 2 3 4|",
		"call at 5 by x in 1 2 souls|", "call at 5 by x in 1 2 souls |", "call at 5 by x in 1 2 souls |trust 9", "call at 5 by x in 1 2 souls | 5 trust 9",
		"call at 5 by x in 1 2 souls 5|", "call at 5 by x in 1 2 souls 5 |", "call at 5 by x in 1 2 souls 5 |souls 5 trust 9", "call at 5 by x in 1 2 souls 5 |3 4 trust 9", "call at 5 by x in 1 2 souls 5 | trust 9",
		"call at 5 by x in 1 2 trust|", "call at 5 by x in 1 2 trust |", "call at 5 by x in 1 2 trust |souls 5", "call at 5 by x in 1 2 trust | 9",
		"call at 5 by x in 1 2 trust 9 |", "call at 5 by x in 1 2 trust 9 | ", "call at 5 by x in 1 2 trust 9 |souls 5", "call at 5 by x in 1 2 trust 9 |10", "call at 5 by x in 1 2 trust |9\n",
		"missing at 5 by x in 1 1 1 1 trust 9 |x", // ahead of a report that is not valid
	} {
		refuseAt(t, marked, api.ErrForm)
	}
	for _, name := range wrongNames {
		name, _, _ = strings.Cut(name, " ")
		if name == "a" {
			continue
		}
		refuseAt(t, "call at 5 by |"+name+" in 1 2 trust 9", api.ErrForm)
		refuseAt(t, "call at 5 by x about |"+name+" in 1 2 trust 9", api.ErrForm)
	}
}

// P2.3
func TestParseNumbers(t *testing.T) {
	for _, number := range wrongNumbers {
		refuseAt(t, "call at |"+number+" by x in 1 2 souls 3 trust 9", api.ErrForm)
		refuseAt(t, "call at 5 by x in |"+number+" 2 souls 3 trust 9", api.ErrForm)
		refuseAt(t, "call at 5 by x in 1 |"+number+" souls 3 trust 9", api.ErrForm)
		refuseAt(t, "call at 5 by x in 1 2 |"+number+" 4 souls 3 trust 9", api.ErrForm)
		refuseAt(t, "call at 5 by x in 1 2 3 |"+number+" souls 3 trust 9", api.ErrForm)
		refuseAt(t, "call at 5 by x in 1 2 souls |"+number+" trust 9", api.ErrForm)
		refuseAt(t, "call at 5 by x in 1 2 souls 3 trust |"+number, api.ErrForm)
	}
	for _, marked := range []string{
		"call at |-1 by x in 1 2 souls 3 trust 9", "call at |1073741825 by", "call at |9999999999 by x in 1 2", "call at |-9999999999 by x",
		"call at 5 by x in |16777217 2 trust 9", "call at 5 by x in |-16777217 2 trust 9", "call at 5 by x in 1 |16777217 trust 9", "call at 5 by x in 1 |-16777217", "call at 5 by x in 1 2 |9999999999 4 trust 9", "call at 5 by x in 1 2 3 |-9999999999",
		"call at 5 by x in 1 2 souls |-1 trust 9", "call at 5 by x in 1 2 souls |10001 trust 9", "call at 5 by x in 1 2 souls |9999999999",
		"call at 5 by x in 1 2 souls 3 trust |-1", "call at 5 by x in 1 2 souls 3 trust |1001", "call at 5 by x in 1 2 trust |9999999999", "call at 5 by x in 1 2 trust |1001 x",
	} {
		refuseAt(t, marked, api.ErrRange)
	}
}

// P2.3: the limit of pairs.
func TestParsePairs(t *testing.T) {
	full := "call at 5 by x in" + strings.Repeat(" 1 2", api.MaxCorners)
	for _, behind := range []string{" |3 4 trust 9", " |3 trust 9", " |3", " |", " | 4 trust 9", " |x", " |99999999999 4", " |3 x", " |3 4 5 6 souls"} {
		refuseAt(t, full+behind, api.ErrLong)
	}
	refuseAt(t, full+"|", api.ErrForm)
	refuseAt(t, full+" trust |x", api.ErrForm)
	refuseAt(t, full+" souls |x", api.ErrForm)
	refuseAt(t, full+" trust 9|", api.ErrArg)
}

// P2.3: a report that is not valid, though all parts are right.
func TestParseReport(t *testing.T) {
	refuse(t, "missing at 5 by x in 0 0 trust 1", 32, api.ErrArg)
	for _, line := range []string{
		"beacon at 5 by x in 0 0 trust 1",
		"call at 5 by x in 1 2 1 2 trust 9",
		"call at 5 by x in 0 0 0 10 10 0 souls 4 trust 9",
		"call at 5 by x in 0 0 1 0 2 0 souls 4 trust 9",
		"missing at 5 by x about y in 0 0 1 1 2 2 trust 0",
	} {
		refuse(t, line, len(line), api.ErrArg)
	}
}

// P2.3: the limit of bytes.
func TestParseLong(t *testing.T) {
	refuse(t, strings.Repeat("x", api.MaxLine+1), 0, api.ErrLong)
	refuse(t, report.Print(call())+strings.Repeat(" ", api.MaxLine), 0, api.ErrLong)
	refuse(t, strings.Repeat("x", api.MaxLine), 0, api.ErrForm)
	line := report.Print(call())
	refuse(t, line+strings.Repeat(" ", api.MaxLine-len(line)), len(line)+1, api.ErrForm)
	longest := longLine(t, api.MaxLine)
	if r, at, e := report.Parse(longest); report.Print(r) != longest || at != 0 || e != api.OK {
		t.Errorf("a line of MaxLine bytes: %v, error %d at %d", r, e, at)
	}
	refuse(t, longLine(t, api.MaxLine+1), 0, api.ErrLong)
}

// longLine returns the line of a report with so many bytes.
func longLine(t *testing.T, size int) string {
	t.Helper()
	const far = 10000000
	r := changed(func(r *api.Report) {
		r.Where = nil
		for _, p := range twelve() {
			r.Where = append(r.Where, api.Spot{X: p.X - far, Y: p.Y - far})
		}
	})
	r.About = "a"
	missing := size - len(report.Print(r))
	r.About += strings.Repeat("b", min(missing, api.MaxName-1))
	r.Source += strings.Repeat("b", missing+1-len(r.About))
	line := report.Print(r)
	if len(line) != size {
		t.Fatalf("%q has %d bytes", line, len(line))
	}
	return line
}

// P2.8
func TestParseOfPrint(t *testing.T) {
	random := rand.New(rand.NewSource(5))
	long := 0
	for range 20000 {
		r := someReport(random)
		line := report.Print(r)
		if len(line) > api.MaxLine {
			long++
			refuse(t, line, 0, api.ErrLong)
			continue
		}
		if read, at, e := report.Parse(line); !same(read, r) || at != 0 || e != api.OK {
			t.Fatalf("%q is %v, error %d at %d; want %v", line, read, e, at, r)
		}
	}
	if long == 0 {
		t.Error("no line was too long")
	}
}

// P2.3, P2.8: each line that is read is the one that is printed; each other one is refused somewhere within it.
func TestPrintOfParse(t *testing.T) {
	random := rand.New(rand.NewSource(6))
	words := []string{"", "at", "by", "about", "in", "souls", "trust", "call", "flare", "x", "0", "1", "-1", "-0", "01", "16777217", "99999999999", "10001", "\xff"}
	right := 0
	for range 50000 {
		parts := strings.Split(report.Print(someReport(random)), " ")
		for range random.Intn(3) {
			i, word := random.Intn(len(parts)), words[random.Intn(len(words))]
			switch random.Intn(3) {
			case 0:
				parts[i] = word
			case 1:
				parts = append(parts[:i], parts[i+1:]...)
			case 2:
				parts = append(parts[:i], append([]string{word}, parts[i:]...)...)
			}
		}
		line := strings.Join(parts, " ")
		r, at, e := report.Parse(line)
		if e == api.OK {
			right++
			if at != 0 || report.Print(r) != line {
				t.Fatalf("%q is %v, at %d", line, r, at)
			}
		} else if !isZero(r) || at < 0 || at > len(line) || at > 0 && at < len(line) && line[at-1] != ' ' {
			t.Fatalf("%q is %v, error %d at %d", line, r, e, at)
		}
	}
	if right < 1000 {
		t.Errorf("just %d lines were right", right)
	}
}

// P2.3: a line that ends too early is refused where it ends.
func TestParseOfBeginnings(t *testing.T) {
	line := "call at 60 by kestrel about tern in 0 0 10 0 0 10 souls 4 trust 700"
	parts := strings.Split(line, " ")
	for n := 1; n < len(parts); n++ {
		begin := strings.Join(parts[:n], " ")
		refuse(t, begin, len(begin), api.ErrForm)
		refuse(t, begin+" ", len(begin)+1, api.ErrForm)
	}
	for i := range parts { // a byte that no part has
		begin := strings.Join(parts[:i], " ")
		if i > 0 {
			begin += " "
		}
		refuse(t, begin+"*"+strings.TrimPrefix(line, begin), len(begin), api.ErrForm)
		refuse(t, begin+parts[i]+"*"+strings.TrimPrefix(line, begin+parts[i]), len(begin), api.ErrForm)
	}
}

// P2.3: numbers at the bounds of their ranges.
func TestParseBounds(t *testing.T) {
	for _, c := range []struct{ time, x, y, souls, trust int }{{0, -place, place, 0, 0}, {api.MaxTime, place, -place, api.MaxSouls, api.Whole}} {
		line := "call at " + strconv.Itoa(c.time) + " by x in " + strconv.Itoa(c.x) + " " + strconv.Itoa(c.y) + " souls " + strconv.Itoa(c.souls) + " trust " + strconv.Itoa(c.trust)
		want := api.Report{Kind: api.Call, Time: c.time, Source: "x", Where: spots(c.x, c.y), Souls: c.souls, Trust: c.trust}
		if r, at, e := report.Parse(line); !same(r, want) || at != 0 || e != api.OK {
			t.Errorf("%q is %v, error %d at %d", line, r, e, at)
		}
	}
}
