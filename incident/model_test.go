package incident_test

import (
	"slices"

	"cresset/api"
	"cresset/report"
)

// model is a book as the document tells of it, word by word.
type model struct {
	window, drift int
	reports       []api.Report
	proofs        []api.Proof
	incidents     []modelIncident
}

type modelIncident struct {
	reports []int
	open    bool
}

// compare goes through the lines of the comparison.
func (m *model) compare(a, b api.Report) int {
	apart := a.Time - b.Time
	if apart < 0 {
		apart = -apart
	}
	metres := m.drift * apart / 3600
	for metres*3600 < m.drift*apart {
		metres++
	}
	switch {
	case a.About != "" && b.About != "" && a.About == b.About:
		return 1
	case a.About != "" && b.About != "" && a.About != b.About:
		return 2
	case apart > m.window:
		return 3
	case !smallGap(a.Where, b.Where, metres):
		return 4
	}
	return 5
}

// smallGap compares the greatest Least and the least Greatest of the boxes, of which the second one is grown.
func smallGap(a, b []api.Spot, metres int) bool {
	for _, of := range []func(p api.Spot) int{
		func(p api.Spot) int { return p.X },
		func(p api.Spot) int { return p.Y },
	} {
		var one, other []int
		for _, p := range a {
			one = append(one, of(p))
		}
		for _, p := range b {
			other = append(other, of(p)-metres, of(p)+metres)
		}
		if max(slices.Min(one), slices.Min(other)) > min(slices.Max(one), slices.Max(other)) {
			return false
		}
	}
	return true
}

// take returns what Take returns of a valid report, if there is room for it.
func (m *model) take(r api.Report) (incident, reason int) {
	var claim, may []int
	for i, c := range m.incidents {
		var are [6]bool
		for _, n := range c.reports {
			are[m.compare(m.reports[n], r)] = true
		}
		if are[1] {
			claim = append(claim, i)
		}
		if are[5] && !are[2] && c.open {
			may = append(may, i)
		}
	}
	switch {
	case len(claim) > 0:
		incident, reason = claim[0], 1
	case len(may) == 1:
		incident, reason = may[0], 2
	case len(may) > 1:
		incident, reason = len(m.incidents), 3
	default:
		incident, reason = len(m.incidents), 4
	}
	if incident == len(m.incidents) {
		m.incidents = append(m.incidents, modelIncident{})
	}
	c := &m.incidents[incident]
	c.reports, c.open = append(c.reports, len(m.reports)), true
	m.reports = append(m.reports, r)
	return incident, reason
}

// isFew reports whether a count fits a report.
func isFew(r api.Report, count int) bool {
	return r.Souls != -1 && r.Souls <= count || r.Souls == -1 && count >= 1
}

// prove returns what Prove returns, if there is room for the proof.
func (m *model) prove(p api.Proof) api.Errno {
	if p.Report < 0 || p.Report >= len(m.reports) {
		return api.ErrNone
	}
	r := m.reports[p.Report]
	isName := report.CheckReport(api.Report{Kind: api.Call, Source: p.By, Where: spots(0, 0)})
	if p.Time < r.Time || p.Time > api.MaxTime || !isName || !report.CheckArea(p.Where) || p.Count < 0 || p.Count > api.MaxSouls || p.Kind != api.Found && p.Count != 0 {
		return api.ErrArg
	}
	fits := false
	switch p.Kind {
	case 1:
		fits = isFew(r, p.Count)
	case 2:
		fits = r.Kind == api.Beacon && r.About == p.By
	case 3:
		fits = r.Kind == api.Missing && p.By != r.Source && r.About != ""
	case 4:
		fits = (r.Kind == api.Call || r.Kind == api.Flare) && p.By == r.Source
	case 5:
		fits = r.Kind == api.Flare && smallGap(r.Where, p.Where, 0) && p.Time-r.Time <= m.window
	}
	if !fits {
		return api.ErrArg
	}
	m.proofs = append(m.proofs, p)
	return api.OK
}

// incidentOf returns the incident of a report.
func (m *model) incidentOf(n int) int {
	return slices.IndexFunc(m.incidents, func(c modelIncident) bool { return slices.Contains(c.reports, n) })
}

// missing returns the reports of an incident that are not settled.
func (m *model) missing(incident int) []int {
	var l []int
	for _, n := range m.incidents[incident].reports {
		r, settled := m.reports[n], false
		for _, p := range m.proofs {
			settled = settled || p.Report == n ||
				p.Kind == api.Found && m.incidentOf(p.Report) == incident && p.Time >= r.Time && isFew(r, p.Count)
		}
		if !settled {
			l = append(l, n)
		}
	}
	return l
}

// end returns what Close returns.
func (m *model) end(incident int) (int, api.Errno) {
	switch {
	case incident < 0 || incident >= len(m.incidents):
		return -1, api.ErrNone
	case !m.incidents[incident].open:
		return -1, api.ErrState
	}
	if l := m.missing(incident); len(l) > 0 {
		return l[0], api.ErrState
	}
	m.incidents[incident].open = false
	return -1, api.OK
}

// join returns what Join returns.
func (m *model) join(a, b int) api.Errno {
	for _, i := range []int{a, b} {
		if i < 0 || i >= len(m.incidents) || len(m.incidents[i].reports) == 0 {
			return api.ErrNone
		}
	}
	if a == b {
		return api.ErrArg
	}
	for _, n := range m.incidents[a].reports {
		for _, k := range m.incidents[b].reports {
			if m.compare(m.reports[n], m.reports[k]) == 2 {
				return api.ErrState
			}
		}
	}
	all := append(m.incidents[a].reports, m.incidents[b].reports...)
	slices.Sort(all)
	m.incidents[a], m.incidents[b] = modelIncident{all, true}, modelIncident{}
	return api.OK
}

// picture is what a book like the model tells.
func (m *model) picture() picture {
	p := picture{reports: m.reports}
	for n := range m.reports {
		p.incidents = append(p.incidents, m.incidentOf(n))
	}
	for i, c := range m.incidents {
		if c.open {
			p.open = append(p.open, i)
		}
		p.has, p.misses = append(p.has, c.reports), append(p.misses, m.missing(i))
	}
	return p
}
