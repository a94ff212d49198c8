package incident

import (
	"cresset/api"
	"cresset/report"
)

// evidence is what a proof says of its report: each kind is a type of its own, with what matters to it.
type evidence interface {
	// mostCount is how many persons a proof of this kind can have found.
	mostCount() int
}

// found says how many persons of an incident were found, and when. It can settle other reports than its own, too.
type found struct{ report, time, count int }

func (found) mostCount() int { return api.MaxSouls }

// uncounted is what says of no persons that they were found.
type uncounted struct{}

func (uncounted) mostCount() int { return 0 }

type owner struct {
	uncounted
	by string
}

type arrived struct {
	uncounted
	by string
}

type withdrawn struct {
	uncounted
	by string
}

type exercise struct {
	uncounted
	time  int
	where []api.Spot
}

// evidenceOf returns what a proof says, if its kind is known.
func evidenceOf(p api.Proof) (says evidence, known bool) {
	switch p.Kind {
	case api.Found:
		return found{p.Report, p.Time, p.Count}, true
	case api.Owner:
		return owner{by: p.By}, true
	case api.Arrived:
		return arrived{by: p.By}, true
	case api.Withdrawn:
		return withdrawn{by: p.By}, true
	case api.Exercise:
		return exercise{time: p.Time, where: p.Where}, true
	}
	return nil, false
}

// isProof reports whether a proof of a known kind is a valid one of a report.
func isProof(p api.Proof, says evidence, r api.Report) bool {
	// What is a time, a name and an area, is what can be one in a report.
	told := api.Report{Kind: api.Call, Time: p.Time, Source: p.By, Where: p.Where}
	return report.CheckReport(told) && p.Time >= r.Time && 0 <= p.Count && p.Count <= says.mostCount()
}

// fits reports whether a valid proof fits its report.
func (k rules) fits(says evidence, r api.Report) bool {
	switch says := says.(type) {
	case found:
		return says.hasAll(r)
	case owner:
		return r.Kind == api.Beacon && r.About == says.by
	case arrived: // what is missed is known by its name in each valid report
		return r.Kind == api.Missing && r.Source != says.by
	case withdrawn:
		return (r.Kind == api.Call || r.Kind == api.Flare) && r.Source == says.by
	case exercise:
		return r.Kind == api.Flare && areClose(r.Where, says.where, 0) && k.isSoon(r.Time, says.time)
	}
	return false
}

// hasAll reports whether as many persons were found as a report is about.
func (f found) hasAll(r api.Report) bool {
	if r.Souls == -1 {
		return f.count >= 1
	}
	return r.Souls <= f.count
}
