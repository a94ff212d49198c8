package share_test

import (
	"slices"
	"testing"

	"cresset/api"
)

// others are the statements that have the centre and the number of a statement, and are not the same: each one in one field.
func others(s api.Said) []api.Said {
	return []api.Said{
		changed(s, func(s *api.Said) { s.Key = "boat" }),
		changed(s, func(s *api.Said) { s.Value = "lost" }),
		changed(s, func(s *api.Said) { s.Time++ }),
		changed(s, func(s *api.Said) { s.Trust-- }),
		changed(s, func(s *api.Said) { s.Back++ }),
		takesBack(s.Centre, s.Number, 1),
	}
}

// P13.2
func TestTake(t *testing.T) {
	p := newPicture(t, 1)
	takes(t, p, 0)
	takes(t, p, 2, said(2, 1), said(1, 1))
	takes(t, p, 1, said(2, 1), said(2, 2), said(1, 1))
	takes(t, p, 0, said(2, 2), said(1, 1), said(2, 2))
	takes(t, p, 1, said(8, 1000), said(8, 1000), said(8, 1000))
	takes(t, p, 2, said(2, 4), takesBack(2, 3, 1))
	takes(t, p, 0, said(2, 4), takesBack(2, 3, 1))
	knows(t, p, 1, 4)
	if n := p.Arrived(); n != 6 {
		t.Errorf("%d have arrived", n)
	}
	has(t, p, vector(), said(1, 1), said(2, 1), said(2, 2), takesBack(2, 3, 1), said(2, 4))
}

// P13.2: statements are there in the order of the list.
func TestTakeOrder(t *testing.T) {
	l := []api.Said{said(3, 2), said(1, 1), said(3, 2), said(2, 1), said(3, 1), said(1, 1), said(2, 2)}
	p := newPicture(t, 5)
	takes(t, p, 5, l...)
	for arrival, want := range [][]int{vector(), vector(), vector(1), vector(1, 1), vector(1, 1, 2), vector(1, 2, 2)} {
		if v, e := p.When(arrival); !slices.Equal(v, want) || e != api.OK {
			t.Errorf("after %d arrivals: %v, error %d; not %v", arrival, v, e, want)
		}
	}
}

// P13.2: statements that are not valid, wherever they are in a list.
func TestTakeWrong(t *testing.T) {
	p := pictureOf(t, 1, said(2, 1))
	for _, wrong := range wrongSaids() {
		refuses(t, p, api.ErrArg, wrong)
		refuses(t, p, api.ErrArg, wrong, said(2, 2))
		refuses(t, p, api.ErrArg, said(2, 1), said(2, 2), wrong)
		refuses(t, p, api.ErrArg, said(2, 2), wrong, said(3, 1))
		refuses(t, p, api.ErrArg, wrong, takesBack(2, 3, 1), takesBack(2, 3, 2)) // contradicts itself behind it
	}
	takes(t, p, 1, said(2, 2))
}

// P13.2: statements with a number that another one has, in the picture or before them in the list.
func TestTakeThere(t *testing.T) {
	for _, first := range []api.Said{said(2, 3), said(1, 3)} {
		for _, other := range others(first) {
			for _, known := range []bool{true, false} {
				p := newPicture(t, 1)
				if known {
					takes(t, p, 2, sequence(first.Centre, 1, 2)...)
				}
				refuses(t, p, api.ErrThere, first, other)
				refuses(t, p, api.ErrThere, other, said(4, 1), first)
				takes(t, p, 1, first)
				refuses(t, p, api.ErrThere, other)
				refuses(t, p, api.ErrThere, said(3, 1), other, said(3, 2))
				refuses(t, p, api.ErrThere, said(3, 1), first, other)
				takes(t, p, 1, first, said(3, 1), first)
			}
		}
	}
}

// P13.2: one that is the same but for the centre, or the number, is another statement.
func TestTakeAlike(t *testing.T) {
	p := newPicture(t, 1)
	takes(t, p, 4, said(1, 3), said(2, 3), said(1, 4), said(2, 4))
	takes(t, p, 2, takesBack(3, 2, 1), takesBack(4, 2, 1))
}

// P13.2, R1: the first statement with an error decides.
func TestTakeFirstError(t *testing.T) {
	p := pictureOf(t, 1, said(2, 1))
	other := others(said(2, 1))[1]
	for _, wrong := range wrongSaids() {
		refuses(t, p, api.ErrThere, other, wrong)
		refuses(t, p, api.ErrArg, wrong, other)
		refuses(t, p, api.ErrThere, said(5, 1), other, said(6, 1), wrong)
	}
	refuses(t, p, api.ErrArg, takesBack(2, 1, 1)) // not valid, and not the same
	full := sequence(3, 1, 1000)
	refuses(t, p, api.ErrArg, append(full, said(9, 1))...)
	refuses(t, p, api.ErrThere, append(full, other)...)
	refuses(t, p, api.ErrThere, append(full, others(said(3, 500))[0])...)
	refuses(t, p, api.ErrFull, full...)
}

// P13.2: a picture has at most MaxSaid statements, whosever they are, known or not.
func TestTakeFull(t *testing.T) {
	refuses(t, newPicture(t, 1), api.ErrFull, append(sequence(1, 1, 1000), said(2, 1))...)
	for _, l := range [][]api.Said{sequence(1, 1, 1000), sequence(8, 1, 1000), append(sequence(2, 501, 1000), sequence(4, 2, 501)...)} {
		p := newPicture(t, 1)
		takes(t, p, 999, l[:999]...)
		refuses(t, p, api.ErrFull, l[999], said(3, 1))
		refuses(t, p, api.ErrFull, said(3, 1), said(3, 2))
		takes(t, p, 1, append(l, l...)...) // those that are there already need no room
		refuses(t, p, api.ErrFull, said(3, 1))
		refuses(t, p, api.ErrFull, append(l, said(3, 1))...)
		refuses(t, p, api.ErrThere, others(l[500])[0])
		refuses(t, p, api.ErrArg, said(0, 1))
		takes(t, p, 0, l...)
		takes(t, p, 0)
		if n := p.Arrived(); n != 1000 {
			t.Errorf("%d have arrived", n)
		}
	}
}

// P13.3: a statement that came too early is not known before those that are missing have come.
func TestKnown(t *testing.T) {
	p := newPicture(t, 1)
	for _, x := range []struct {
		s    api.Said
		want []int
	}{
		{said(4, 3), vector()},
		{said(4, 1), vector(0, 0, 0, 1)},
		{said(4, 5), vector(0, 0, 0, 1)},
		{said(8, 1000), vector(0, 0, 0, 1)},
		{said(8, 1), vector(0, 0, 0, 1, 0, 0, 0, 1)},
		{takesBack(4, 2, 1), vector(0, 0, 0, 3, 0, 0, 0, 1)},
		{said(1, 2), vector(0, 0, 0, 3, 0, 0, 0, 1)},
		{said(4, 4), vector(0, 0, 0, 5, 0, 0, 0, 1)},
		{said(1, 1), vector(2, 0, 0, 5, 0, 0, 0, 1)},
	} {
		takes(t, p, 1, x.s)
		knows(t, p, x.want...)
	}
}

// P13.3
func TestSince(t *testing.T) {
	p := pictureOf(t, 1, said(4, 3), said(2, 1), said(4, 1), said(1, 2), said(4, 2), said(8, 1), said(4, 5), said(8, 3), takesBack(2, 2, 1))
	of2, of4 := []api.Said{said(2, 1), takesBack(2, 2, 1)}, sequence(4, 1, 3)
	for _, x := range []struct {
		vector []int
		want   []api.Said
	}{
		{vector(), slices.Concat(of2, of4, sequence(8, 1, 1))},
		{vector(0, 1), slices.Concat(of2[1:], of4, sequence(8, 1, 1))},
		{vector(1000, 2, 1000, 1), slices.Concat(of4[1:], sequence(8, 1, 1))},
		{vector(0, 2, 0, 2), slices.Concat(of4[2:], sequence(8, 1, 1))},
		{vector(0, 0, 0, 3, 0, 0, 0, 1), of2},
		{vector(0, 1000, 0, 4, 0, 0, 0, 0), sequence(8, 1, 1)},
		{p.Known(), nil},
		{slices.Repeat([]int{api.MaxSaid}, 8), nil},
	} {
		has(t, p, x.vector, x.want...)
	}
	before := viewOf(t, p)
	for _, v := range wrongVectors() {
		if l, e := p.Since(v); l != nil || e != api.ErrArg {
			t.Errorf("Since %v: %v, error %d", v, l, e)
		}
	}
	isView(t, p, before)
	has(t, newPicture(t, 1), vector())
	full := sequence(5, 1, api.MaxSaid)
	has(t, pictureOf(t, 1, full...), vector(), full...)
	has(t, pictureOf(t, 1, full...), vector(0, 0, 0, 0, 999), full[999])
}
