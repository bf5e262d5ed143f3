package fifo_test

import (
	"slices"

	"muster/api"
	"muster/deps"
	"muster/job"
	"muster/parts"
	"muster/resv"
)

// What the chapter says, in plain words and slow. What a right config, list of reservations and job are, and what may be asked for, is what the layers below say.

// has tells whether that node is one of s.
func has(s api.Set, node int) bool { return node < maxNodes && s>>node&1 == 1 }

// countOf is how many nodes s has.
func countOf(s api.Set) int {
	n := 0
	for node := range maxNodes {
		if has(s, node) {
			n++
		}
	}
	return n
}

// isOver tells whether a job in that state is over.
func isOver(s api.JobState) bool {
	return slices.Contains(of(api.Completed, api.Failed, api.Timeout, api.Cancelled, api.NodeFail, api.Never), s)
}

// until is when a job that runs is at its limit.
func until(j api.Job) int64 { return j.Start + j.Spec.Limit }

// isRight asks each word of the chapter for itself.
func isRight(s api.State) bool {
	right := parts.Right(s.Config) && resv.Right(s.Config, s.Resvs)
	right = right && s.Now > -1 && s.Now < maxTime+1
	right = right && len(s.Nodes) == len(s.Config.Cores) && s.Next > 0 && s.Next < maxId+2
	open := 0
	for i, n := range s.Nodes {
		right = right && n.Cores == s.Config.Cores[i] && n.Epoch > 0 && n.Epoch <= 1<<30
	}
	for i, j := range s.Jobs {
		if !isOver(j.State) {
			open++
		}
		right = right && (i == 0 || s.Jobs[i-1].Id < j.Id) && j.Id < s.Next
		right = right && job.Right(j) && j.Submit <= s.Now && j.Start <= s.Now && j.End <= s.Now
		right = right && (j.State != api.Running || until(j) > s.Now)
		right = right && parts.Check(s.Config, j.Spec) == api.OK && deps.Right(j.Spec.Deps, j.Id) == api.OK
	}
	right = right && open < maxJobs+1 && fit(s)
	for i, p := range s.Promises {
		right = right && (i == 0 || s.Promises[i-1].Id < p.Id) && p.Start > -1 && p.Start < maxTime+1
		right = right && slices.ContainsFunc(s.Jobs, func(j api.Job) bool {
			return j.Id == p.Id && j.State == api.Pending && countOf(p.On) == j.Spec.Nodes
		})
	}
	return right
}

// fit tells whether the running ones do. All of them run now, so that now is when they take the most.
func fit(s api.State) bool {
	for node := range maxNodes {
		taken, cores := 0, 0
		if node < len(s.Config.Cores) {
			cores = s.Config.Cores[node]
		}
		for _, j := range s.Jobs {
			if j.State == api.Running && has(j.On, node) {
				taken += j.Spec.Cores
			}
		}
		if taken > cores {
			return false
		}
	}
	return true
}

// freeAt is how many cores of a node are free at a time, if all that runs runs to its limit.
func freeAt(s api.State, node int, at int64) int {
	free := s.Config.Cores[node]
	for _, j := range s.Jobs {
		if j.State == api.Running && has(j.On, node) && j.Start <= at && at < until(j) {
			free -= j.Spec.Cores
		}
	}
	return free
}

// changes are all times at which something that runs begins or ends, and 0, rising.
func changes(s api.State) []int64 {
	l := of[int64](0)
	for _, j := range s.Jobs {
		if j.State == api.Running {
			l = append(l, j.Start, until(j))
		}
	}
	slices.Sort(l)
	return slices.Compact(l)
}

// profileOf is the profile of a right state.
func profileOf(s api.State) [][]api.Cut {
	var p [][]api.Cut
	for node := range s.Config.Cores {
		var cuts []api.Cut
		for _, t := range changes(s) {
			if free := freeAt(s, node, t); len(cuts) == 0 || cuts[len(cuts)-1].Free != free {
				cuts = append(cuts, api.Cut{At: t, Free: free})
			}
		}
		p = append(p, cuts)
	}
	return p
}

// pathOf is the accounts from that one up to its root.
func pathOf(l []api.Account, name string) []string {
	var path []string
	for i := len(l) - 1; i >= 0; i-- { // each parent stands ahead
		if l[i].Name == name {
			path = append(path, name)
			name = l[i].Parent
		}
	}
	return path
}

// admits tells whether r lets an account use its nodes.
func admits(s api.State, r api.Resv, account string) bool {
	for _, name := range pathOf(s.Config.Accounts, account) {
		if slices.Contains(r.Accounts, name) {
			return true
		}
	}
	return false
}

// askOf is a job's ask.
func askOf(s api.State, j api.Job) api.Ask {
	a := api.Ask{Count: j.Spec.Nodes, Cores: j.Spec.Cores, Limit: j.Spec.Limit, From: s.Now}
	for _, p := range s.Config.Parts {
		for node := range s.Nodes {
			if p.Name == j.Spec.Part && has(p.Nodes, node) && s.Nodes[node].Up {
				a.Nodes += 1 << node
			}
		}
	}
	for _, r := range s.Resvs {
		if !admits(s, r, j.Spec.Account) {
			a.Blocks = append(a.Blocks, api.Block{Nodes: r.Nodes, From: r.From, To: r.To})
		}
	}
	return a
}

// comes tells whether a dependency holds.
func comes(s api.State, d api.Dep) bool {
	for _, j := range s.Jobs {
		if j.Id == d.Id {
			done := j.State == api.Completed
			return isOver(j.State) && (d.Kind == api.DepAny || d.Kind == api.DepOk && done || d.Kind == api.DepFail && !done)
		}
	}
	return false
}

// within tells whether a job's account and quality let it start beside all that runs.
func within(s api.State, j api.Job) bool {
	ask := j.Spec.Nodes * j.Spec.Cores
	path := pathOf(s.Config.Accounts, j.Spec.Account)
	for _, a := range s.Config.Accounts {
		used := 0
		for _, other := range s.Jobs {
			if other.State == api.Running && slices.Contains(pathOf(s.Config.Accounts, other.Spec.Account), a.Name) {
				used += other.Spec.Nodes * other.Spec.Cores
			}
		}
		if slices.Contains(path, a.Name) && a.Limit >= 0 && used+ask > a.Limit {
			return false
		}
	}
	for _, q := range s.Config.Qos {
		used, count := 0, 0
		for _, other := range s.Jobs {
			if other.State == api.Running && other.Spec.Qos == q.Name {
				used += other.Spec.Nodes * other.Spec.Cores
				count++
			}
		}
		if q.Name == j.Spec.Qos && (q.Limit >= 0 && used+ask > q.Limit || q.Jobs >= 0 && count+1 > q.Jobs) {
			return false
		}
	}
	return len(path) > 0 && slices.ContainsFunc(s.Config.Qos, func(q api.Qos) bool { return q.Name == j.Spec.Qos })
}

// mayOf tells whether a job may start; of a config whose accounts and qualities are right.
func mayOf(s api.State, j api.Job) bool {
	may := j.State == api.Pending && within(s, j)
	for _, d := range j.Spec.Deps {
		may = may && comes(s, d)
	}
	return may
}

// isOpen tells whether a node has room for an ask from t on.
func isOpen(s api.State, a api.Ask, node int, t int64) bool {
	if !has(a.Nodes, node) {
		return false
	}
	for _, at := range append(changes(s), t) {
		if t <= at && at < t+a.Limit && freeAt(s, node, at) < a.Cores {
			return false
		}
	}
	for _, b := range a.Blocks {
		if has(b.Nodes, node) && b.From < t+a.Limit && t < b.To {
			return false
		}
	}
	return true
}

// placeOf is the first time at which there is room for an ask, and the lowest nodes: it is now, or when something ends that was in its way.
func placeOf(s api.State, a api.Ask) (int64, api.Set, bool) {
	times := append(changes(s), a.From)
	for _, b := range a.Blocks {
		times = append(times, b.To)
	}
	slices.Sort(times)
	for _, t := range times {
		var on api.Set
		for node := range s.Config.Cores {
			if countOf(on) < a.Count && isOpen(s, a, node, t) {
				on += 1 << node
			}
		}
		if t >= a.From && t <= maxTime && countOf(on) == a.Count {
			return t, on, true
		}
	}
	return 0, 0, false
}

// ratingOf is how far ahead a job of a right state is.
func ratingOf(s api.State, j api.Job) int {
	n := 0
	for _, p := range s.Config.Parts {
		if p.Name == j.Spec.Part {
			n += 1001 * p.Prio
		}
	}
	for _, q := range s.Config.Qos {
		if q.Name == j.Spec.Qos {
			n += q.Prio
		}
	}
	return n
}

// queueOf is the places of the pending jobs of a right state, the ones ahead first.
func queueOf(s api.State) []int {
	var l []int
	for i, j := range s.Jobs {
		if j.State == api.Pending {
			l = append(l, i)
		}
	}
	slices.SortStableFunc(l, func(a, b int) int { return ratingOf(s, s.Jobs[b]) - ratingOf(s, s.Jobs[a]) })
	return l
}

// passOf is the starts of a right state.
func passOf(s api.State) []api.Start {
	starts, _ := walk(s)
	return starts
}

// walk is the starts of a right state, and the first job that waits for room, or 0.
func walk(s api.State) ([]api.Start, int) {
	s = anew(s)
	var starts []api.Start
	for _, i := range queueOf(s) {
		if !mayOf(s, s.Jobs[i]) {
			continue
		}
		t, on, ok := placeOf(s, askOf(s, s.Jobs[i]))
		if ok && t > s.Now {
			return starts, s.Jobs[i].Id
		}
		if ok {
			s.Jobs[i] = runs(s.Jobs[i], on, t)
			starts = append(starts, api.Start{Id: s.Jobs[i].Id, On: on})
		}
	}
	return starts, 0
}

// putOf is a state with that start, or the first error.
func putOf(s api.State, x api.Start) (api.State, api.Errno) {
	if !isRight(s) {
		return api.State{}, api.ErrArg
	}
	s = anew(s)
	i := slices.IndexFunc(s.Jobs, func(j api.Job) bool { return j.Id == x.Id })
	if i < 0 {
		return api.State{}, api.ErrName
	}
	if countOf(x.On) != s.Jobs[i].Spec.Nodes {
		return api.State{}, api.ErrArg
	}
	if s.Jobs[i].State != api.Pending {
		return api.State{}, api.ErrState
	}
	s.Jobs[i] = runs(s.Jobs[i], x.On, s.Now)
	var others []api.Promise
	for _, p := range s.Promises {
		if p.Id != x.Id {
			others = append(others, p)
		}
	}
	s.Promises = others
	if !fit(s) {
		return api.State{}, api.ErrOver
	}
	return s, api.OK
}
