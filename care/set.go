package care

import (
	"cmp"
	"iter"
	"math/bits"
	"slices"
)

// set is a set of numbers of facts, steps or tanks, from 0 on: a bit for each.
type set[N ~int] uint32

// setOf returns the set of some numbers.
func setOf[N ~int](l []int) set[N] {
	var s set[N]
	for _, n := range l {
		s = s.with(N(n))
	}
	return s
}

// below returns the set of all numbers below one.
func below[N ~int](most int) set[N] {
	return 1<<most - 1
}

func (s set[N]) has(n N) bool {
	return s>>n&1 == 1
}

func (s set[N]) with(n N) set[N] {
	return s | 1<<n
}

func (s set[N]) and(other set[N]) set[N] {
	return s | other
}

func (s set[N]) without(other set[N]) set[N] {
	return s &^ other
}

func (s set[N]) hasAll(of set[N]) bool {
	return of.without(s) == 0
}

func (s set[N]) hasNone(of set[N]) bool {
	return of.without(s) == of
}

func (s set[N]) size() int {
	return bits.OnesCount32(uint32(s))
}

// numbers yields the numbers of the set, rising.
func (s set[N]) numbers() iter.Seq[N] {
	return func(yield func(N) bool) {
		for left := s; left != 0; left &= left - 1 {
			if !yield(N(bits.TrailingZeros32(uint32(left)))) {
				return
			}
		}
	}
}

// list returns the numbers of the set, rising.
func (s set[N]) list() []int {
	var l []int
	for n := range s.numbers() {
		l = append(l, int(n))
	}
	return l
}

// subsets yields the sets of numbers below one, each behind all that it contains.
func subsets[N ~int](most int) iter.Seq[set[N]] {
	return func(yield func(set[N]) bool) {
		for s := range set[N](1) << most {
			if !yield(s) {
				return
			}
		}
	}
}

// choices yields the sets of numbers below one, those with fewer numbers first, and of equally many the one whose list comes first.
func choices[N ~int](most int) iter.Seq[set[N]] {
	return slices.Values(slices.SortedFunc(subsets[N](most), func(a, b set[N]) int {
		return cmp.Or(cmp.Compare(a.size(), b.size()), slices.Compare(a.list(), b.list()))
	}))
}
