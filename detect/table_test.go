package detect_test

import (
	"math"
	"math/rand"
	"slices"
	"testing"

	"cresset/api"
	"cresset/detect"
)

func sight(sensor, object, light, sea, width int) api.Sight {
	return api.Sight{Sensor: sensor, Object: object, Light: light, Sea: sea, Width: width}
}

// manySights returns a valid table with so many rows of different sensors and objects.
func manySights(rows int) []api.Sight {
	var l []api.Sight
	for i := range rows {
		l = append(l, sight(i%api.MaxSorts, i/api.MaxSorts, 0, 0, i))
	}
	return l
}

// P6.1
func TestCheckTable(t *testing.T) {
	for _, c := range []struct {
		what string
		l    []api.Sight
		want api.Errno
	}{
		{"nil", nil, api.OK},
		{"no rows", []api.Sight{}, api.OK},
		{"least numbers", []api.Sight{sight(0, 0, 0, 0, 0)}, api.OK},
		{"greatest numbers", []api.Sight{sight(63, 63, 63, 9, 100000)}, api.OK},
		{"sensor -1", []api.Sight{sight(-1, 0, 0, 0, 0)}, api.ErrArg},
		{"sensor 64", []api.Sight{sight(64, 0, 0, 0, 0)}, api.ErrArg},
		{"object -1", []api.Sight{sight(0, -1, 0, 0, 0)}, api.ErrArg},
		{"object 64", []api.Sight{sight(0, 64, 0, 0, 0)}, api.ErrArg},
		{"light -1", []api.Sight{sight(0, 0, -1, 0, 0)}, api.ErrArg},
		{"light 64", []api.Sight{sight(0, 0, 64, 0, 0)}, api.ErrArg},
		{"sea -1", []api.Sight{sight(0, 0, 0, -1, 0)}, api.ErrArg},
		{"sea 10", []api.Sight{sight(0, 0, 0, 10, 0)}, api.ErrArg},
		{"width -1", []api.Sight{sight(0, 0, 0, 0, -1)}, api.ErrArg},
		{"width 100001", []api.Sight{sight(0, 0, 0, 0, 100001)}, api.ErrArg},
		{"least int", []api.Sight{sight(math.MinInt, 0, 0, 0, 0)}, api.ErrArg},
		{"greatest int", []api.Sight{sight(0, 0, 0, 0, math.MaxInt)}, api.ErrArg},
		{"a later row", []api.Sight{sight(0, 0, 0, 0, 0), sight(1, 64, 0, 0, 0)}, api.ErrArg},
		{"less width in more sea", []api.Sight{sight(1, 2, 0, 3, 800), sight(1, 2, 0, 5, 500)}, api.OK},
		{"the same, the other way round", []api.Sight{sight(1, 2, 0, 5, 500), sight(1, 2, 0, 3, 800)}, api.OK},
		{"equal widths", []api.Sight{sight(1, 2, 0, 3, 800), sight(1, 2, 0, 5, 800)}, api.OK},
		{"more width in more sea", []api.Sight{sight(1, 2, 0, 3, 800), sight(1, 2, 0, 5, 801)}, api.ErrArg},
		{"the same, the other way round", []api.Sight{sight(1, 2, 0, 5, 801), sight(1, 2, 0, 3, 800)}, api.ErrArg},
		{"equal seas", []api.Sight{sight(1, 2, 0, 3, 800), sight(1, 2, 0, 3, 500)}, api.ErrArg},
		{"equal rows", []api.Sight{sight(1, 2, 0, 3, 800), sight(1, 2, 0, 3, 800)}, api.ErrArg},
		{"equal rows far apart", []api.Sight{sight(1, 2, 0, 3, 800), sight(1, 2, 0, 4, 700), sight(1, 2, 0, 5, 600), sight(1, 2, 0, 3, 800)}, api.ErrArg},
		{"one between two others that is wrong to one of them", []api.Sight{sight(1, 2, 0, 1, 800), sight(1, 2, 0, 9, 500), sight(1, 2, 0, 5, 400)}, api.ErrArg},
		{"other sensors", []api.Sight{sight(1, 2, 0, 3, 800), sight(2, 2, 0, 5, 900)}, api.OK},
		{"other objects", []api.Sight{sight(1, 2, 0, 3, 800), sight(1, 1, 0, 5, 900)}, api.OK},
		{"other lights", []api.Sight{sight(1, 2, 0, 3, 800), sight(1, 2, 1, 5, 900)}, api.OK},
		{"the same numbers of others", []api.Sight{sight(1, 2, 0, 3, 800), sight(2, 1, 0, 3, 900), sight(0, 1, 2, 3, 700), sight(2, 0, 1, 3, 600)}, api.OK},
		{"256 rows", manySights(api.MaxSights), api.OK},
		{"257 rows", manySights(api.MaxSights + 1), api.ErrArg},
	} {
		if e := detect.CheckTable(c.l); e != c.want {
			t.Errorf("%s: error %d, want %d", c.what, e, c.want)
		}
		if c.want != api.OK {
			if w, e := detect.Width(c.l, 1, 2, 0, 3); w != 0 || e != api.ErrArg {
				t.Errorf("Width of %s: %d, error %d", c.what, w, e)
			}
		}
	}
}

// P6.1
func TestWidth(t *testing.T) {
	rows := []api.Sight{sight(1, 2, 0, 9, 0), sight(1, 2, 0, 3, 800), sight(1, 2, 0, 5, 500), sight(1, 2, 1, 4, 90), sight(2, 2, 0, 4, 91), sight(1, 1, 0, 4, 92)}
	for _, c := range []struct {
		l                          []api.Sight
		sensor, object, light, sea int
		want                       int
		e                          api.Errno
	}{
		{rows[1:3], 1, 2, 0, 4, 500, api.OK}, {rows[1:3], 1, 2, 0, 6, 0, api.ErrNone},
		{rows[1:], 1, 2, 0, 4, 500, api.OK}, {rows[1:], 1, 2, 0, 6, 0, api.ErrNone}, {rows[1:], 1, 2, 0, 5, 500, api.OK}, {rows[1:], 1, 2, 0, 3, 800, api.OK}, {rows[1:], 1, 2, 0, 0, 800, api.OK},
		{rows, 1, 2, 0, 6, 0, api.OK}, {rows, 1, 2, 0, 9, 0, api.OK}, {rows, 1, 2, 0, 10, 0, api.ErrNone}, {rows, 1, 2, 0, 3, 800, api.OK}, {rows, 1, 2, 0, 4, 500, api.OK},
		{rows, 1, 2, 0, -1, 800, api.OK}, {rows, 1, 2, 0, math.MinInt, 800, api.OK}, {rows, 1, 2, 0, math.MaxInt, 0, api.ErrNone},
		{rows, 1, 2, 1, 4, 90, api.OK}, {rows, 2, 2, 0, 4, 91, api.OK}, {rows, 1, 1, 0, 4, 92, api.OK}, {rows, 1, 1, 0, 5, 0, api.ErrNone},
		{rows, 2, 1, 0, 0, 0, api.ErrNone}, {rows, 1, 2, 2, 0, 0, api.ErrNone}, {rows, -1, 2, 0, 0, 0, api.ErrNone}, {rows, 64, 2, 0, 0, 0, api.ErrNone}, {rows, math.MaxInt, 2, 0, 0, 0, api.ErrNone},
		{nil, 1, 2, 0, 0, 0, api.ErrNone}, {[]api.Sight{}, 0, 0, 0, 0, 0, api.ErrNone},
		{append(rows[:len(rows):len(rows)], rows[0]), 1, 2, 0, 10, 0, api.ErrArg}, // ahead of ErrNone
	} {
		if w, e := detect.Width(c.l, c.sensor, c.object, c.light, c.sea); w != c.want || e != c.e {
			t.Errorf("Width of %v, of %d, %d, %d, sea %d: %d, error %d; want %d, error %d", c.l, c.sensor, c.object, c.light, c.sea, w, e, c.want, c.e)
		}
	}
}

// isTable is the chapter's text of what a valid table is.
func isTable(l []api.Sight) bool {
	for i, a := range l {
		if a.Sensor < 0 || a.Sensor > 63 || a.Object < 0 || a.Object > 63 || a.Light < 0 || a.Light > 63 || a.Sea < 0 || a.Sea > 9 || a.Width < 0 || a.Width > 100000 {
			return false
		}
		for k, b := range l {
			isSame := a.Sensor == b.Sensor && a.Object == b.Object && a.Light == b.Light
			if i != k && isSame && (a.Sea == b.Sea || a.Sea > b.Sea && a.Width > b.Width) {
				return false
			}
		}
	}
	return len(l) <= 256
}

// widthOf is the chapter's text of what Width returns of a valid table.
func widthOf(l []api.Sight, sensor, object, light, sea int) (int, api.Errno) {
	for at := sea; at <= 9; at++ {
		for _, row := range l {
			if row.Sensor == sensor && row.Object == object && row.Light == light && row.Sea == at {
				return row.Width, api.OK
			}
		}
	}
	return 0, api.ErrNone
}

// someTable returns a table that is valid more often than not.
func someTable(random *rand.Rand) []api.Sight {
	var l []api.Sight
	for range random.Intn(14) {
		sea := random.Intn(10)
		width := 100*(9-sea) + random.Intn(110)
		l = append(l, sight(random.Intn(2), random.Intn(2), random.Intn(2), sea, width))
	}
	return l
}

// P6.1, P6.6: what a table says in some sea, it says as the chapter says it, and never less than in a greater sea.
func TestWidthsOfSome(t *testing.T) {
	random := rand.New(rand.NewSource(61))
	var tables [2]int
	var widths int
	for range 4000 {
		l := someTable(random)
		if !isTable(l) {
			tables[0]++
			if e := detect.CheckTable(l); e != api.ErrArg {
				t.Fatalf("CheckTable of %v has the error %d", l, e)
			}
			continue
		}
		tables[1]++
		if e := detect.CheckTable(l); e != api.OK {
			t.Fatalf("CheckTable of %v has the error %d", l, e)
		}
		for _, row := range append(slices.Clone(l), sight(2, 0, 0, 0, 0)) {
			before := math.MaxInt
			for sea := range 11 {
				want, wantError := widthOf(l, row.Sensor, row.Object, row.Light, sea)
				w, e := detect.Width(l, row.Sensor, row.Object, row.Light, sea)
				if w != want || e != wantError || w > before {
					t.Fatalf("Width of %v, of %v, sea %d: %d, error %d; want %d, error %d, and at most %d", l, row, sea, w, e, want, wantError, before)
				}
				before = w
				widths++
			}
		}
	}
	if min(tables[0], tables[1]) < 500 || widths < 10000 {
		t.Errorf("only %v tables, %d widths", tables, widths)
	}
}

// P6.2
func TestCover(t *testing.T) {
	most := int64(100000) << 40
	for _, c := range []struct {
		width, speed, seconds, area int
		want                        api.Part
		e                           api.Errno
	}{
		{1000, 5000, 3600, 36000000, of(1, 2), api.OK}, {1, 1, 1, 1, of(1, 1000), api.OK}, {3, 5, 7, 11, of(21, 2200), api.OK}, {10, 10, 10, 1, of(1, 1), api.OK},
		{0, 1, 1, 1, of(0, 1), api.OK}, {1, 0, 1, 1, of(0, 1), api.OK}, {1, 1, 0, 1, of(0, 1), api.OK}, {0, 0, 0, 1, of(0, 1), api.OK},
		{100000, 1 << 20, 1 << 20, 1, of(most, 1000), api.OK}, {100000, 1 << 20, 1 << 20, 1 << 50, of(25, 256), api.OK}, {1, 1, 1, 1 << 50, of(1, 1000<<50), api.OK},
		{99999, 1<<20 - 1, 1<<20 - 1, 1<<50 - 1, of(99999*(1<<20-1)*(1<<20-1), 1000*(1<<50-1)), api.OK},
		{-1, 1, 1, 1, api.Part{}, api.ErrArg}, {100001, 1, 1, 1, api.Part{}, api.ErrArg}, {1, -1, 1, 1, api.Part{}, api.ErrArg}, {1, 1<<20 + 1, 1, 1, api.Part{}, api.ErrArg},
		{1, 1, -1, 1, api.Part{}, api.ErrArg}, {1, 1, 1<<20 + 1, 1, api.Part{}, api.ErrArg}, {1, 1, 1, 0, api.Part{}, api.ErrArg}, {1, 1, 1, -1, api.Part{}, api.ErrArg},
		{1, 1, 1, 1<<50 + 1, api.Part{}, api.ErrArg}, {-1, -1, 1, 1, api.Part{}, api.ErrArg}, {math.MinInt, 1, 1, 1, api.Part{}, api.ErrArg}, {1, math.MaxInt, 1, 1, api.Part{}, api.ErrArg}, {1, 1, 1, math.MaxInt, api.Part{}, api.ErrArg},
	} {
		p, e := detect.Cover(c.width, c.speed, c.seconds, c.area)
		is(t, "Cover", p, e, c.want, c.e)
	}
}
