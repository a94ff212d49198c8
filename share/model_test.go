package share_test

import (
	"slices"
	"strings"

	"cresset/api"
)

// model is a picture as the document tells of it, word by word.
type model struct {
	centre   int
	arrivals []api.Said
}

// modelValid reports whether a statement is valid.
func modelValid(s api.Said) bool {
	if s.Centre < 1 || s.Centre > 8 || s.Number < 1 || s.Number > 1000 || s.Back < 0 || s.Back > s.Number-1 {
		return false
	}
	if s.Key == "" {
		return s.Value == "" && s.Time == 0 && s.Trust == 0 && s.Back != 0
	}
	const letters, digits = "abcdefghijklmnopqrstuvwxyz", "0123456789"
	if len(s.Key) > 32 || !strings.Contains(letters, s.Key[:1]) || strings.Trim(s.Key, letters+digits+"-") != "" {
		return false
	}
	for _, r := range s.Value {
		if r != ' ' && (r < '!' || r > '~') {
			return false
		}
	}
	return len(s.Value) >= 1 && len(s.Value) <= 100 && s.Time >= 0 && s.Time <= 1<<30 && s.Trust >= 0 && s.Trust <= 1000
}

// find returns the statement of a centre with a number, if it is one of these.
func find(l []api.Said, centre, number int) (s api.Said, ok bool) {
	for _, s := range l {
		if s.Centre == centre && s.Number == number {
			return s, true
		}
	}
	return api.Said{}, false
}

// known returns what was known after so many arrivals.
func (m *model) known(arrivals int) []int {
	v := make([]int, 8)
	for centre := 1; centre <= 8; centre++ {
		for number := 1; number <= 1000; number++ {
			if _, ok := find(m.arrivals[:arrivals], centre, number); !ok {
				break
			}
			v[centre-1] = number
		}
	}
	return v
}

func (m *model) say(w words) (api.Said, api.Errno) {
	if len(m.arrivals) >= 1000 {
		return api.Said{}, api.ErrFull
	}
	number := m.known(len(m.arrivals))[m.centre-1] + 1
	s := api.Said{Centre: m.centre, Number: number, Key: w.key, Value: w.value, Time: w.time, Trust: w.trust, Back: w.back}
	if !modelValid(s) {
		return api.Said{}, api.ErrArg
	}
	m.arrivals = append(m.arrivals, s)
	return s, api.OK
}

func (m *model) take(l []api.Said) (fresh int, e api.Errno) {
	var more []api.Said
	for _, s := range l {
		if !modelValid(s) {
			return 0, api.ErrArg
		}
		other, ok := find(append(slices.Clone(m.arrivals), more...), s.Centre, s.Number)
		if ok && other != s {
			return 0, api.ErrThere
		}
		if !ok {
			more = append(more, s)
		}
	}
	if len(m.arrivals)+len(more) > 1000 {
		return 0, api.ErrFull
	}
	m.arrivals = append(m.arrivals, more...)
	return len(more), api.OK
}

func modelVector(v []int) bool {
	if len(v) != 8 {
		return false
	}
	for _, n := range v {
		if n < 0 || n > 1000 {
			return false
		}
	}
	return true
}

func (m *model) since(v []int) ([]api.Said, api.Errno) {
	if !modelVector(v) {
		return nil, api.ErrArg
	}
	var l []api.Said
	for i, most := range m.known(len(m.arrivals)) {
		for number := 1; number <= most; number++ {
			if s, ok := find(m.arrivals, i+1, number); ok && number > v[i] {
				l = append(l, s)
			}
		}
	}
	return l, api.OK
}

// counting returns the statements that count up to a vector.
func counting(l []api.Said, v []int) []api.Said {
	var count []api.Said
	for _, s := range l {
		counts := s.Number <= v[s.Centre-1] && s.Key != ""
		for _, other := range l {
			if other.Centre == s.Centre && other.Number <= v[s.Centre-1] && other.Back == s.Number {
				counts = false
			}
		}
		if counts {
			count = append(count, s)
		}
	}
	return count
}

// countsMore reports whether s counts more than other.
func countsMore(s, other api.Said) bool {
	switch {
	case s.Trust != other.Trust:
		return s.Trust > other.Trust
	case s.Time != other.Time:
		return s.Time > other.Time
	case s.Centre != other.Centre:
		return s.Centre < other.Centre
	}
	return s.Number > other.Number
}

func (m *model) at(v []int) ([]api.Shown, api.Errno) {
	if !modelVector(v) {
		return nil, api.ErrArg
	}
	for i, n := range m.known(len(m.arrivals)) {
		if v[i] > n {
			return nil, api.ErrNone
		}
	}
	var shown []api.Shown
	count := counting(m.arrivals, v)
	for _, s := range count {
		most, others := true, []string{}
		for _, other := range count {
			if other.Key != s.Key {
				continue
			}
			most = most && !countsMore(other, s)
			if other.Value != s.Value && !slices.Contains(others, other.Value) {
				others = append(others, other.Value)
			}
		}
		if most {
			shown = append(shown, api.Shown{Said: s, Others: len(others)})
		}
	}
	slices.SortFunc(shown, func(a, b api.Shown) int { return strings.Compare(a.Said.Key, b.Said.Key) })
	return shown, api.OK
}

// view is what a picture like the model tells.
func (m *model) view() view {
	v := view{known: m.known(len(m.arrivals)), arrived: len(m.arrivals)}
	v.since, _ = m.since(make([]int, 8))
	v.show, _ = m.at(v.known)
	v.at = v.show
	for arrival := range v.arrived + 1 {
		v.when = append(v.when, m.known(arrival))
	}
	return v
}
