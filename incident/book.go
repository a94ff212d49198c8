package incident

import (
	"slices"

	"cresset/api"
)

// isBook reports whether New has returned the book.
func (k *Book) isBook() bool {
	return k != nil && k.self == k
}

func (k *Book) hasReport(n int) bool {
	return 0 <= n && n < len(k.entries)
}

func (k *Book) hasIncident(incident int) bool {
	return 0 <= incident && incident < len(k.open)
}

// stance is what an incident's reports are to a new one: whether one of them is the same, other, near.
type stance struct{ same, other, near bool }

// stances returns those of all incidents to a report.
func (k *Book) stances(r api.Report) []stance {
	l := make([]stance, len(k.open))
	for _, there := range k.entries {
		s := &l[there.incident]
		switch k.compare(there.report, r) {
		case api.SameOne:
			s.same = true
		case api.OtherOne:
			s.other = true
		case api.Near:
			s.near = true
		}
	}
	return l
}

// place returns the incident that a new report belongs to, and why. It is the next number if the report begins an incident.
func (k *Book) place(r api.Report) (incident, reason int) {
	var may []int
	for i, s := range k.stances(r) {
		if s.same {
			return i, api.Claimed
		}
		if k.open[i] && s.near && !s.other {
			may = append(may, i)
		}
	}
	switch len(may) {
	case 0:
		return len(k.open), api.Nothing
	case 1:
		return may[0], api.Alone
	}
	return len(k.open), api.Doubtful
}

// list returns numbers of reports of an incident.
func (k *Book) list(incident int, numbers func(incident int) []int) ([]int, api.Errno) {
	switch {
	case !k.isBook():
		return nil, api.ErrNil
	case !k.hasIncident(incident):
		return nil, api.ErrNone
	}
	return numbers(incident), api.OK
}

// reports returns the numbers of an incident's reports; none, if there is no such incident.
func (k *Book) reports(incident int) []int {
	var l []int
	for n, r := range k.entries {
		if r.incident == incident {
			l = append(l, n)
		}
	}
	return l
}

// missing returns the numbers of an incident's reports that are not settled.
func (k *Book) missing(incident int) []int {
	return slices.DeleteFunc(k.reports(incident), k.isSettled)
}

// isSettled reports whether there is a proof of a report, or all of its persons were found, as a proof of another report of its incident says.
func (k *Book) isSettled(n int) bool {
	r := k.entries[n]
	return r.proved || slices.ContainsFunc(k.finds, func(f found) bool {
		return k.entries[f.report].incident == r.incident && f.time >= r.report.Time && f.hasAll(r.report)
	})
}

// areOther reports whether a report of one incident and one of another one are about two names.
func (k *Book) areOther(a, b int) bool {
	for _, m := range k.reports(a) {
		for _, n := range k.reports(b) {
			if k.compare(k.entries[m].report, k.entries[n].report) == api.OtherOne {
				return true
			}
		}
	}
	return false
}
