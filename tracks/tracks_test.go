package tracks_test

import (
	"math/big"
	"math/rand"
	"testing"

	"cresset/api"
	"cresset/tracks"
)

// P8.1
func TestCheckTrack(t *testing.T) {
	for i, l := range rightTracks() {
		if e := tracks.CheckTrack(l); e != api.OK {
			t.Errorf("track %d: error %v", i, e)
		}
	}
	for i, l := range wrongTracks() {
		if e := tracks.CheckTrack(l); e != api.ErrArg {
			t.Errorf("wrong track %d: error %v", i, e)
		}
	}
	for y := -4; y <= 4; y++ {
		for x := -4; x <= 4; x++ {
			want := api.ErrArg
			if (x != 0 || y != 0) && (x == 0 || y == 0 || x == y || x == -y) {
				want = api.OK
			}
			if e := tracks.CheckTrack(track(9, 5, 9+x, 5+y)); e != want {
				t.Errorf("a leg (%d, %d): error %v", x, y, e)
			}
		}
	}
}

// P8.1
func TestLength(t *testing.T) {
	longest := 2 * place * (api.MaxTrack - 1)
	var crossing []api.Spot
	for i := range api.MaxTrack {
		crossing = append(crossing, spot(-place+i%2*2*place, place-i%2*2*place))
	}
	for _, c := range []struct {
		what      string
		l         []api.Spot
		low, high int
	}{
		{"the example", track(0, 0, 3, 0, 5, 2), 5, 6},
		{"along x", track(4, 7, -3, 7), 7, 7},
		{"along y", track(4, 7, 4, 5, 4, 9), 6, 6},
		{"a diagonal of 1", track(0, 0, 1, 1), 1, 2},
		{"to the lower right", track(0, 0, 5, -5), 7, 8},
		{"to the upper left", track(0, 0, -5, 5), 7, 8},
		{"to the lower left", track(0, 0, -5, -5), 7, 8},
		{"diagonals together", track(0, 0, 1, 1, 2, 2, 3, 3), 4, 5},
		{"there and back", track(0, 0, 1, 1, 0, 0, 1, 1, 0, 0), 5, 6},
		{"just below an integer", track(0, 0, 70, 70), 98, 99},
		{"just above an integer", track(0, 0, 99, 99), 140, 141},
		{"of the greatest size", track(-place, -place, place, place), 47453132, 47453133},
		{"the longest straight one", zigzag(api.MaxTrack, place), longest / 2, longest / 2},
		{"the longest one", crossing, 48544554866, 48544554867},
	} {
		if low, high, e := tracks.Length(c.l); low != c.low || high != c.high || e != api.OK {
			t.Errorf("%s: %d, %d, error %v", c.what, low, high, e)
		}
	}
	for i, l := range wrongTracks() {
		if low, high, e := tracks.Length(l); low != 0 || high != 0 || e != api.ErrArg {
			t.Errorf("wrong track %d: %d, %d, error %v", i, low, high, e)
		}
	}
}

// lengthOf returns the integers next to a length, by the squares of what is left of it behind the straight legs.
func lengthOf(l []api.Spot) (low, high int) {
	straight, diagonal := 0, 0
	for i := 1; i < len(l); i++ {
		u, v := l[i].X-l[i-1].X, l[i].Y-l[i-1].Y
		size := max(u, -u, v, -v)
		if u == 0 || v == 0 {
			straight += size
		} else {
			diagonal += size
		}
	}
	square := big.NewInt(int64(diagonal))
	square.Mul(square, square)
	square.Add(square, square)
	root := new(big.Int).Sqrt(square)
	low = straight + int(root.Int64())
	if new(big.Int).Mul(root, root).Cmp(square) != 0 {
		return low, low + 1
	}
	return low, low
}

// P8.1
func TestLengthOfMany(t *testing.T) {
	random := rand.New(rand.NewSource(1))
	for range 5000 {
		l := someTrack(random, 1<<random.Intn(22))
		wantLow, wantHigh := lengthOf(l)
		if low, high, e := tracks.Length(l); low != wantLow || high != wantHigh || e != api.OK {
			t.Fatalf("%v: %d, %d, error %v", l, low, high, e)
		}
	}
	// Each size of a diagonal on its own, and sums of them.
	for n := 1; n < 3000; n++ {
		for _, l := range [][]api.Spot{track(0, 0, n, n), track(0, 0, -n*5000, n*5000, -n*5000+n, n*5000+n)} {
			wantLow, wantHigh := lengthOf(l)
			if low, high, e := tracks.Length(l); low != wantLow || high != wantHigh || e != api.OK {
				t.Fatalf("%v: %d, %d, error %v", l, low, high, e)
			}
		}
	}
}

// P8.1
func TestSeconds(t *testing.T) {
	example := track(0, 0, 3, 0, 5, 2)
	for _, c := range []struct {
		l           []api.Spot
		speed, want int
	}{
		{example, 1000, 6},
		{example, 1, 6000},
		{example, 6000, 1},
		{example, 6001, 1},
		{example, 5999, 2},
		{example, 1 << 20, 1},
		{track(0, 0, 7, 0), 1000, 7},
		{track(0, 0, 7, 0), 1001, 7},
		{track(0, 0, 7, 0), 999, 8},
		{track(0, 0, 0, -7), 3500, 2},
		{track(-place, 0, place, 0), 1, 2000 * place},
		{track(-place, -place, place, place), 1, 47453133000},
		{track(-place, -place, place, place), 1 << 20, 45255},
	} {
		if n, e := tracks.Seconds(c.l, c.speed); n != c.want || e != api.OK {
			t.Errorf("%v at %d: %d, error %v", c.l, c.speed, n, e)
		}
	}
	for _, speed := range []int{0, -1, 1<<20 + 1, huge, small} {
		if n, e := tracks.Seconds(example, speed); n != 0 || e != api.ErrArg {
			t.Errorf("at %d: %d, error %v", speed, n, e)
		}
	}
	for i, l := range wrongTracks() {
		if n, e := tracks.Seconds(l, 1000); n != 0 || e != api.ErrArg {
			t.Errorf("wrong track %d: %d, error %v", i, n, e)
		}
	}
	random := rand.New(rand.NewSource(2))
	for range 3000 {
		l, speed := someTrack(random, 1<<random.Intn(22)), 1+random.Intn(1<<random.Intn(21))
		_, high := lengthOf(l)
		if n, e := tracks.Seconds(l, speed); n*speed < 1000*high || (n-1)*speed >= 1000*high || e != api.OK {
			t.Fatalf("%v at %d: %d, error %v", l, speed, n, e)
		}
	}
}
