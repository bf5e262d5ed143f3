package fifo

import (
	"slices"

	"muster/api"
)

// apart is s with all of its lists, and all lists in these, in memory of their own.
func apart(s api.State) api.State {
	s.Config.Cores = slices.Clone(s.Config.Cores)
	s.Config.Parts = each(s.Config.Parts, func(p *api.Part) { p.Accounts = slices.Clone(p.Accounts) })
	s.Config.Accounts = slices.Clone(s.Config.Accounts)
	s.Config.Qos = slices.Clone(s.Config.Qos)
	s.Nodes = slices.Clone(s.Nodes)
	s.Jobs = each(s.Jobs, func(j *api.Job) { j.Spec.Deps = slices.Clone(j.Spec.Deps) })
	s.Resvs = each(s.Resvs, func(r *api.Resv) { r.Accounts = slices.Clone(r.Accounts) })
	s.Promises = slices.Clone(s.Promises)
	return s
}

// each is a copy of l with each element changed.
func each[T any](l []T, change func(x *T)) []T {
	l = slices.Clone(l)
	for i := range l {
		change(&l[i])
	}
	return l
}
