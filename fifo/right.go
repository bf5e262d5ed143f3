package fifo

import (
	"slices"

	"muster/api"
	"muster/deps"
	"muster/job"
	"muster/nodes"
	"muster/nodeset"
	"muster/parts"
	"muster/resv"
)

// isInOrder tells whether all of s is as a right state has it, but that what runs need not fit.
func isInOrder(s api.State) bool {
	return isTime(s.Now) && resv.Right(s.Config, s.Resvs) && areNodes(s) && areJobs(s) &&
		1 <= s.Next && s.Next <= api.MaxId+1 && arePromises(s)
}

// areNodes tells whether the nodes of s are those that its config tells.
func areNodes(s api.State) bool {
	return nodes.Right(s.Nodes) && slices.Equal(nodes.Cores(s.Nodes), s.Config.Cores)
}

// areJobs tells whether the jobs of s may stand in it, with the config and the times that it has.
func areJobs(s api.State) bool {
	if !rises(s.Jobs, func(j api.Job) int { return j.Id }) {
		return false
	}
	open := 0
	return !slices.ContainsFunc(s.Jobs, func(j api.Job) bool {
		if !job.Over(j.State) {
			open++
		}
		return open > api.MaxJobs || !isJob(s, j)
	})
}

// isJob tells whether j, for itself, may stand in s.
func isJob(s api.State, j api.Job) bool {
	return job.Right(j) && j.Id < s.Next && max(j.Submit, j.Start, j.End) <= s.Now &&
		(j.State != api.Running || job.End(j) > s.Now) &&
		parts.Check(s.Config, j.Spec) == api.OK && deps.Right(j.Spec.Deps, j.Id) == api.OK
}

// arePromises tells whether the promises of s may stand in it, beside the jobs that it has.
func arePromises(s api.State) bool {
	// That they rise is asked first: then as many at most as there may be pending jobs are looked for among all jobs.
	return rises(s.Promises, func(p api.Promise) int { return p.Id }) &&
		!slices.ContainsFunc(s.Promises, func(p api.Promise) bool { return !isPromise(s.Jobs, p) })
}

// isPromise tells whether p, for itself, may stand beside these jobs.
func isPromise(jobs []api.Job, p api.Promise) bool {
	i, there := job.Find(jobs, p.Id)
	return there && jobs[i].State == api.Pending && isTime(p.Start) && nodeset.Count(p.On) == jobs[i].Spec.Nodes
}

// rises tells whether the ids in l rise, none twice.
func rises[T any](l []T, id func(x T) int) bool {
	for i := range l {
		if i > 0 && id(l[i-1]) >= id(l[i]) {
			return false
		}
	}
	return true
}

// isTime tells whether t is a time.
func isTime(t int64) bool {
	return 0 <= t && t <= api.MaxTime
}
