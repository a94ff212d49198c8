package centre

import (
	"slices"

	"cresset/api"
	"cresset/belief"
	"cresset/unit"
)

// search is what is known of a search. The zero search is none.
type search struct {
	state   int // Without, Active or Suspended
	belief  api.Belief
	notices []api.Notice
	steps   int
	left    api.Part
}

// withStep returns the search after one step more.
func (s search) withStep() search {
	s.steps++
	return s.filtered()
}

// withNotice returns the search with one notice more.
func (s search) withNotice(n api.Notice) search {
	s.notices = append(slices.Clone(s.notices), n)
	return s.filtered()
}

// filtered returns the search with the chance that its notices and its steps leave, and panics with a refusal if there is none.
func (s search) filtered() search {
	_, left, e := belief.Filter(s.belief, s.notices, s.steps)
	must(api.Decision{Error: e})
	s.left = left
	return s
}

// record is what the centre knows of an incident, beside the book.
type record struct{ search }

// record returns the record of an incident, and panics with a refusal if there is no such incident.
func (c *Centre) record(incident int) *record {
	refuseIf(!isBetween(0, incident, len(c.records)-1), api.Decision{Error: api.ErrNone})
	return &c.records[incident]
}

// searched returns the record of an incident that has a search, and panics with a refusal if it has none.
func (c *Centre) searched(incident int) *record {
	r := c.record(incident)
	refuseIf(r.state == api.Without, api.Decision{Error: api.ErrState})
	return r
}

func (c *Centre) isOpen(incident int) bool {
	return slices.Contains(c.book.Open(), incident)
}

// status returns how an incident stands.
func (c *Centre) status(incident int) api.Status {
	r := c.records[incident]
	return api.Status{
		Open:    c.isOpen(incident),
		Search:  r.state,
		Steps:   r.steps,
		Notices: len(r.notices),
		Left:    r.left,
	}
}

// plan is the space that a unit takes. A free plan, which takes none, is the zero plan.
type plan struct{ boxes []api.Box }

// isTaken reports whether a plan is taken: each one takes some space, at least that of the base.
func (p plan) isTaken() bool {
	return len(p.boxes) > 0
}

// meets reports whether a plan takes some space that others take, too.
func (p plan) meets(boxes []api.Box) bool {
	i, _ := unit.Clash(boxes, p.boxes)
	return i >= 0
}
