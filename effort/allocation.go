package effort

import (
	"iter"

	"cresset/api"
	"cresset/detect"
	"cresset/weight"
)

// post is a site, and the hours that each team is there.
type post struct {
	site  int
	hours [api.MaxTeams]int
}

// with returns p with so many more hours of a team.
func (p post) with(team, more int) post {
	p.hours[team] += more
	return p
}

// allocation is a plan for a task: a post for each site, at the front of the array. It keeps what is found at each post that it was asked about, as the same ones are asked about again and again.
type allocation struct {
	task  api.Effort
	posts [api.MaxSites]post
	known map[post]api.Part
}

// allocate returns the allocation of a valid plan, or, if that is nil, of the plan of zeros.
func allocate(t api.Effort, plan [][]int) *allocation {
	a := &allocation{task: t, known: map[post]api.Part{}}
	for site := range t.Sites {
		a.posts[site].site = site
		for team, hours := range plan {
			a.posts[site].hours[team] = hours[site]
		}
	}
	return a
}

// used yields the post of each site, in the order of the sites.
func (a *allocation) used() iter.Seq[post] {
	return func(yield func(post) bool) {
		for site := range a.task.Sites {
			if !yield(a.posts[site]) {
				return
			}
		}
	}
}

// plan returns the hours of each team at each site.
func (a *allocation) plan() [][]int {
	plan := make([][]int, len(a.task.Hours))
	for p := range a.used() {
		for team := range plan {
			plan[team] = append(plan[team], p.hours[team])
		}
	}
	return plan
}

// cover returns the coverage of a post's site.
func (a *allocation) cover(p post) api.Part {
	var rates, hours []api.Part
	for team, row := range a.task.Rates {
		rates, hours = append(rates, row[p.site]), append(hours, whole(p.hours[team]))
	}
	return fitting(weight.Mean(rates, hours))
}

// covers returns the coverage of each site.
func (a *allocation) covers() []api.Part {
	return each(a.used(), a.cover)
}

// find returns what is found at a post: the weight of its site times the chance of the coverage.
func (a *allocation) find(p post) api.Part {
	if found, ok := a.known[p]; ok {
		return found
	}
	site := a.task.Sites[p.site]
	found := times(site.Weight, fitting(detect.Chance(site.Curve, a.cover(p))))
	a.known[p] = found
	return found
}

// finds returns what is found at each site.
func (a *allocation) finds() []api.Part {
	return each(a.used(), a.find)
}

// value returns the value of the plan.
func (a *allocation) value() api.Part {
	return total(a.finds())
}

// gain returns the gain of a team at a site.
func (a *allocation) gain(team, site int) api.Part {
	p := a.posts[site]
	return minus(a.find(p.with(team, 1)), a.find(p))
}

// each returns what do makes of each element.
func each[T, R any](l iter.Seq[T], do func(T) R) []R {
	var made []R
	for next := range l {
		made = append(made, do(next))
	}
	return made
}
