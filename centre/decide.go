package centre

import (
	"cresset/api"
	"cresset/belief"
	"cresset/unit"
	"cresset/weight"
)

// deeds returns what is done with a matter of each kind: each one returns its decision, or panics with a refusal before anything has changed.
func (c *Centre) deeds() map[int]func(api.Matter) api.Decision {
	return map[int]func(api.Matter) api.Decision{
		api.Hear:    c.hear,
		api.Prove:   c.prove,
		api.Close:   c.close,
		api.Begin:   c.begin,
		api.Pass:    c.pass,
		api.Look:    c.look,
		api.Suspend: c.suspend,
		api.Send:    c.send,
		api.Recall:  c.recall,
	}
}

// decide does what is done with a matter, and returns the decision. (In this package nothing panics but refusals.)
func (c *Centre) decide(m api.Matter) (d api.Decision) {
	defer func() {
		if refused, ok := recover().(api.Decision); ok {
			d = refused
		}
	}()
	deed, ok := c.deeds()[m.Kind]
	refuseIf(!ok, api.Decision{Error: api.ErrArg})
	return deed(m)
}

// refuseIf ends a decision by a panic with a refusal, if it applies.
func refuseIf(applies bool, refusal api.Decision) {
	if applies {
		panic(refusal)
	}
}

// must ends a decision that has an error.
func must(d api.Decision) {
	refuseIf(d.Error != api.OK, d)
}

func (c *Centre) hear(m api.Matter) api.Decision {
	n, reason, e := c.book.Take(m.Report)
	must(api.Decision{Error: e})
	if n == len(c.records) {
		c.records = append(c.records, record{})
	}
	if r := &c.records[n]; r.state == api.Suspended {
		r.state = api.Active
	}
	return api.Decision{N: n, Why: reason}
}

func (c *Centre) prove(m api.Matter) api.Decision {
	must(api.Decision{Error: c.book.Prove(m.Proof)})
	_, n, e := c.book.Report(m.Proof.Report)
	must(api.Decision{Error: e})
	return api.Decision{N: n}
}

func (c *Centre) close(m api.Matter) api.Decision {
	report, e := c.book.Close(m.N)
	d := api.Decision{Error: e, N: m.N, Why: report}
	must(d)
	c.records[m.N].search = search{}
	return d
}

func (c *Centre) begin(m api.Matter) api.Decision {
	r := c.record(m.N)
	refuseIf(!c.isOpen(m.N) || r.state != api.Without, api.Decision{Error: api.ErrState})
	must(api.Decision{Error: belief.Check(m.Belief)})
	r.search = search{state: api.Active, belief: m.Belief, left: one()}
	return api.Decision{N: m.N, Left: r.left}
}

func (c *Centre) pass(m api.Matter) api.Decision {
	r := c.searched(m.N)
	refuseIf(r.steps == api.MaxTimes, api.Decision{Error: api.ErrRange})
	r.search = r.withStep()
	return api.Decision{N: m.N, Left: r.left}
}

func (c *Centre) look(m api.Matter) api.Decision {
	r := c.searched(m.N)
	must(api.Decision{Error: belief.CheckNotice(r.belief, m.Notice)})
	refuseIf(m.Notice.Time > r.steps, api.Decision{Error: api.ErrArg})
	refuseIf(len(r.notices) == api.MaxNotices, api.Decision{Error: api.ErrLong})
	r.search = r.withNotice(m.Notice)
	if r.state == api.Suspended && c.isTooMuch(r.left) {
		r.state = api.Active
	}
	return api.Decision{N: m.N, Left: r.left}
}

func (c *Centre) suspend(m api.Matter) api.Decision {
	r := c.record(m.N)
	refuseIf(r.state != api.Active, api.Decision{Error: api.ErrState})
	d := api.Decision{N: m.N, Left: r.left}
	if c.isTooMuch(r.left) {
		d.Error = api.ErrState
	}
	must(d)
	r.state = api.Suspended
	return d
}

func (c *Centre) send(m api.Matter) api.Decision {
	legs, _, why, e := unit.Plan(m.Unit, m.Start, m.Route, m.Sky)
	must(api.Decision{Error: e, Why: why})
	refuseIf(len(c.plans) == api.MaxPlans, api.Decision{Error: api.ErrFull})
	boxes, e := unit.Boxes(m.Unit, legs, c.rules.Pieces)
	must(api.Decision{Error: e})
	for n, there := range c.plans {
		refuseIf(there.meets(boxes), api.Decision{Error: api.ErrThere, Why: n})
	}
	c.plans = append(c.plans, plan{boxes})
	return api.Decision{N: len(c.plans) - 1}
}

func (c *Centre) recall(m api.Matter) api.Decision {
	exists := isBetween(0, m.N, len(c.plans)-1)
	refuseIf(!exists || !c.plans[m.N].isTaken(), api.Decision{Error: api.ErrNone})
	c.plans[m.N] = plan{}
	return api.Decision{N: m.N}
}

// isTooMuch reports whether more is left than may be when a search is suspended.
func (c *Centre) isTooMuch(left api.Part) bool {
	return weight.Compare(left, c.rules.Limit) > 0
}
