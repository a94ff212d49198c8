package share

import (
	"cmp"
	"iter"
	"maps"
	"slices"

	"cresset/api"
)

// show returns what the picture shows at a vector of what is known.
func (p *Picture) show(v vector) []api.Shown {
	said := map[string][]api.Said{}
	for s := range p.counting(v) {
		said[s.Key] = append(said[s.Key], s)
	}
	var l []api.Shown
	for _, key := range slices.Sorted(maps.Keys(said)) {
		l = append(l, shown(said[key]))
	}
	return l
}

// counting yields the statements up to a vector that count. One that is taken back itself takes back all the same: what was wrong does not become right again.
func (p *Picture) counting(v vector) iter.Seq[api.Said] {
	return func(yield func(api.Said) bool) {
		back := map[mark]bool{}
		for s := range p.between(vector{}, v) {
			back[mark{s.Centre, s.Back}] = true
		}
		for s := range p.between(vector{}, v) {
			if s.Key != "" && !back[markOf(s)] && !yield(s) {
				return
			}
		}
	}
}

// shown returns what is shown of a thing, by all statements of it that count.
func shown(l []api.Said) api.Shown {
	values := map[string]bool{}
	for _, s := range l {
		values[s.Value] = true
	}
	said := greatest(l,
		func(s api.Said) int { return s.Trust },
		func(s api.Said) int { return s.Time },
		func(s api.Said) int { return -s.Centre },
		func(s api.Said) int { return s.Number },
	)
	return api.Shown{Said: said, Others: len(values) - 1}
}

// greatest returns the element of a list, which is not empty, that has the greatest of the first measure, of several the one with the greatest of the next one, and so on.
func greatest[T any](l []T, measures ...func(T) int) T {
	return slices.MaxFunc(l, func(a, b T) int {
		for _, measure := range measures {
			if c := cmp.Compare(measure(a), measure(b)); c != 0 {
				return c
			}
		}
		return 0
	})
}
