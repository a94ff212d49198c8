package share

import (
	"iter"

	"cresset/api"
)

// mark is what tells a statement from all others.
type mark struct{ centre, number int }

func markOf(s api.Said) mark {
	return mark{s.Centre, s.Number}
}

// arrival is a statement that has come to a picture, and the number of its arrival there.
type arrival struct {
	said   api.Said
	number int
}

// add adds a statement, which is not there yet, to those that are.
func add(there map[mark]arrival, s api.Said) {
	there[markOf(s)] = arrival{s, len(there) + 1}
}

// known returns what is known of each centre.
func (p *Picture) known() vector {
	return p.knownAfter(len(p.there))
}

// knownAfter returns what was known of each centre after so many arrivals.
func (p *Picture) knownAfter(arrivals int) vector {
	var v vector
	for i := range v {
		for p.hadCome(mark{i + 1, v[i] + 1}, arrivals) {
			v[i]++
		}
	}
	return v
}

// hadCome reports whether a statement was one of the first arrivals.
func (p *Picture) hadCome(m mark, arrivals int) bool {
	a, ok := p.there[m]
	return ok && a.number <= arrivals
}

// between yields the statements of each centre with numbers above those of one vector, up to those of another one, of which all are known; centre by centre, rising.
func (p *Picture) between(low, high vector) iter.Seq[api.Said] {
	return func(yield func(api.Said) bool) {
		for i, most := range high {
			for n := low[i] + 1; n <= most; n++ {
				if !yield(p.there[mark{i + 1, n}].said) {
					return
				}
			}
		}
	}
}
