package fifo_test

import (
	"math"
	"slices"
	"strconv"
	"testing"

	"muster/api"
	"muster/fifo"
)

// The places of rich's jobs.
const (
	theCompleted = iota
	theFailed
	theRunning // job 3
	theCancelled
	thePending // job 6, promised
	theOther   // job 8, pending, promised
	theNew     // job 9, runs
)

// change is what is changed of a state.
type change = func(s *api.State)

// rightChanges are such that rich stays right.
func rightChanges() map[string]change {
	return map[string]change{
		"as it is":                           func(s *api.State) {},
		"policy Easy":                        func(s *api.State) { s.Config.Policy = api.Easy },
		"policy Conservative":                func(s *api.State) { s.Config.Policy = api.Conservative },
		"a node is down":                     func(s *api.State) { s.Nodes[1].Up = false },
		"all nodes are down":                 func(s *api.State) { s.Nodes[0].Up, s.Nodes[1].Up = false, false },
		"nodes of other epochs":              func(s *api.State) { s.Nodes[0].Epoch, s.Nodes[1].Epoch = 2, 1<<30 },
		"no reservations":                    func(s *api.State) { s.Resvs = nil },
		"a reservation that is over":         func(s *api.State) { s.Resvs = append(of(held("a", 1, 0, 5, "bio")), s.Resvs...) },
		"a reservation that ends at MaxTime": func(s *api.State) { s.Resvs[1].To = maxTime },
		"a reservation in which a job runs that it does not let": func(s *api.State) { s.Resvs[1].From = 40 },
		"MaxResvs reservations":                                  func(s *api.State) { s.Resvs = manyResvs(maxResvs) },
		"no jobs":                                                func(s *api.State) { s.Jobs, s.Promises = nil, nil },
		"no promises":                                            func(s *api.State) { s.Promises = nil },
		"Next one above the greatest Id":                         func(s *api.State) { s.Next = 10 },
		"Next MaxId":                                             func(s *api.State) { s.Next = maxId },
		"Next MaxId and one":                                     func(s *api.State) { s.Next = maxId + 1 },
		"the greatest Id MaxId, Next one more":                   func(s *api.State) { s.Jobs[theNew].Id, s.Next = maxId, maxId+1 },
		"submitted at Now":                                       func(s *api.State) { s.Jobs[thePending].Submit = 50 },
		"submitted at 0":                                         func(s *api.State) { s.Jobs[thePending].Submit = 0 },
		"started at Now":                                         func(s *api.State) { s.Jobs[theRunning].Start = 50 },
		"ended at Now":                                           func(s *api.State) { s.Jobs[theCompleted].End = 50 },
		"cancelled at Now":                                       func(s *api.State) { s.Jobs[theCancelled].End = 50 },
		"started and ended at Now":                               func(s *api.State) { s.Jobs[theCompleted].Start, s.Jobs[theCompleted].End = 50, 50 },
		"over later than its limit":                              func(s *api.State) { s.Jobs[theCompleted].End = 49 },
		"it runs till one above Now":                             func(s *api.State) { s.Jobs[theRunning].Start = 41 },
		"it runs till one above Now, by its limit":               func(s *api.State) { s.Jobs[theRunning].Spec.Limit = 6 },
		"a limit of MaxLimit":                                    func(s *api.State) { s.Jobs[theRunning].Spec.Limit = maxLimit },
		"a dependency on the job ahead":                          func(s *api.State) { s.Jobs[thePending].Spec.Deps = of(good(5)) },
		"a dependency on a job that is not there":                func(s *api.State) { s.Jobs[thePending].Spec.Deps = of(good(4)) },
		"a dependency that never will hold":                      func(s *api.State) { s.Jobs[thePending].Spec.Deps = of(good(2)) },
		"as many dependencies as may be":                         func(s *api.State) { s.Jobs[thePending].Spec.Deps = of(good(1), anyEnd(1), bad(2), anyEnd(5)) },
		"it runs, and waits still":                               func(s *api.State) { s.Jobs[theNew].Spec.Deps = of(good(3)) },
		"it runs where another partition is":                     func(s *api.State) { s.Jobs[theRunning].Spec.Part = "big" },
		"it runs above its account's limit":                      func(s *api.State) { s.Config.Accounts[1].Limit = 0 },
		"it runs above its quality's limits":                     func(s *api.State) { s.Config.Qos[0].Limit, s.Config.Qos[0].Jobs = 1, 0 },
		"a node is full":                                         func(s *api.State) { s.Jobs[theRunning].Spec.Cores = 4 },
		"a node is full of two":                                  func(s *api.State) { s.Jobs[theNew].On, s.Jobs[theNew].Spec.Cores = 1, 2 },
		"what was over has taken all":                            func(s *api.State) { s.Jobs[theCompleted].Spec.Cores, s.Jobs[theFailed].Spec.Cores = 4, 4 },
		"what was over ran on nodes that there are not":          func(s *api.State) { s.Jobs[theCompleted].On = 1 << 31 },
		"ids far apart":                                          func(s *api.State) { s.Jobs[theNew].Id, s.Next = 5000, 9000 },
		"one of an array":                                        func(s *api.State) { s.Jobs[thePending].Of, s.Jobs[thePending].Index = 5, 9999 },
		"a promise at Now":                                       func(s *api.State) { s.Promises[0].Start = 50 },
		"a promise below Now":                                    func(s *api.State) { s.Promises[0].Start = 49 },
		"a promise at 0":                                         func(s *api.State) { s.Promises[0].Start = 0 },
		"a promise at MaxTime":                                   func(s *api.State) { s.Promises[1].Start = maxTime },
		"a promise of one alone":                                 func(s *api.State) { s.Promises = s.Promises[1:] },
		"a promise on other nodes":                               func(s *api.State) { s.Promises[1].On = 2 },
		"a promise on nodes that there are not":                  func(s *api.State) { s.Promises[0].On = 3 << 30 },
		"a promise on nodes that are taken, down and not for it": func(s *api.State) { s.Nodes[0].Up, s.Promises[1].Start = false, 90 },
		"a promise of a job that may not start":                  func(s *api.State) { s.Jobs[thePending].Spec.Deps = of(good(2)) },
		"a job that is pending is over": func(s *api.State) {
			s.Jobs[thePending], s.Promises = left(s.Jobs[thePending], api.Never, 50), s.Promises[1:]
		},
		"an account that has children asks":                    func(s *api.State) { s.Jobs[thePending].Spec.Account = "all" },
		"as many nodes and cores as there are":                 func(s *api.State) { s.Jobs[thePending].Spec.Cores = 4 },
		"a partition that is for its account, and below it":    func(s *api.State) { s.Jobs[theNew].Spec.Part = "big" },
		"as long as a partition lets":                          func(s *api.State) { s.Jobs[theNew].Spec.Part, s.Jobs[theNew].Spec.Limit = "big", 100 },
		"an exit of another number":                            func(s *api.State) { s.Jobs[theFailed].Exit = math.MinInt },
		"one that has failed with its node, another timed out": func(s *api.State) { s.Jobs[theCompleted].State, s.Jobs[theCancelled].State = api.NodeFail, api.Never },
		"a later Now, the short job not there":                 func(s *api.State) { s.Now, s.Jobs = 54, s.Jobs[:theNew] },
		"an earlier Now, what came at it not there":            func(s *api.State) { s.Now, s.Jobs, s.Promises = 45, s.Jobs[:theOther], s.Promises[:1] },
		"MaxTime, the running ones not there": func(s *api.State) {
			s.Now, s.Jobs[theRunning], s.Jobs = maxTime, over(s.Jobs[theRunning], api.Timeout, 1, 45, 55), s.Jobs[:theNew]
		},
		"MaxTime, one starts there": func(s *api.State) { s.Now, s.Jobs[theRunning].Start, s.Jobs = maxTime, maxTime, s.Jobs[:theNew] },
		"MaxTime, one starts there for MaxLimit": func(s *api.State) {
			s.Now, s.Jobs[theRunning].Start, s.Jobs[theRunning].Spec.Limit, s.Jobs = maxTime, maxTime, maxLimit, s.Jobs[:theNew]
		},
		"MaxTime, one ends above it that began long ago": func(s *api.State) {
			s.Now, s.Jobs[theRunning].Start, s.Jobs[theRunning].Spec.Limit, s.Jobs = maxTime, maxTime+1-maxLimit, maxLimit, s.Jobs[:theNew]
		},
		"MaxTime, one is submitted there, and cancelled": func(s *api.State) {
			s.Now, s.Jobs, s.Promises = maxTime, of(left(sent(waits(7, 1, 1, 1), maxTime), api.Cancelled, maxTime)), nil
		},
		"MaxTime, one is promised it": func(s *api.State) {
			s.Now, s.Jobs, s.Promises = maxTime, s.Jobs[thePending:theOther], of(api.Promise{Id: 6, Start: maxTime, On: 3})
		},
		"0, one is submitted then and runs": func(s *api.State) { s.Now, s.Jobs, s.Promises = 0, of(runs(waits(7, 2, 4, 1), 3, 0)), nil },
	}
}

// manyResvs are so many, of node 1, for bio, one behind the other.
func manyResvs(n int) []api.Resv {
	var l []api.Resv
	for i := range n {
		l = append(l, held("r"+strconv.Itoa(100+i), 2, int64(100+i), int64(101+i), "bio"))
	}
	return l
}

// wrongConfigs are such that rich's config is not right any more.
func wrongConfigs() map[string]change {
	return map[string]change{
		"no config":                       func(s *api.State) { s.Config = api.Config{} },
		"no policy":                       func(s *api.State) { s.Config.Policy = 0 },
		"policy 4":                        func(s *api.State) { s.Config.Policy = 4 },
		"no partitions":                   func(s *api.State) { s.Config.Parts = nil },
		"a partition of no node":          func(s *api.State) { s.Config.Parts[1].Nodes = 0 },
		"a partition of a node too many":  func(s *api.State) { s.Config.Parts[0].Nodes = 7 },
		"a partition's Prio of 1001":      func(s *api.State) { s.Config.Parts[0].Prio = 1001 },
		"a partition's MaxLimit too much": func(s *api.State) { s.Config.Parts[0].MaxLimit = maxLimit + 1 },
		"a partition twice":               func(s *api.State) { s.Config.Parts = append(s.Config.Parts, s.Config.Parts[0]) },
		"a partition for nobody":          func(s *api.State) { s.Config.Parts[1].Accounts = of("x") },
		"no accounts":                     func(s *api.State) { s.Config.Accounts = nil },
		"an account twice":                func(s *api.State) { s.Config.Accounts = append(s.Config.Accounts, s.Config.Accounts[3]) },
		"an account's parent below it":    func(s *api.State) { s.Config.Accounts[1].Parent = "lab" },
		"an account's limit of -2":        func(s *api.State) { s.Config.Accounts[2].Limit = -2 },
		"no qualities":                    func(s *api.State) { s.Config.Qos = nil },
		"a quality's jobs of -2":          func(s *api.State) { s.Config.Qos[1].Jobs = -2 },
		"a quality's Prio of -1":          func(s *api.State) { s.Config.Qos[1].Prio = -1 },
		"0 cores":                         func(s *api.State) { s.Config.Cores[1], s.Nodes[1].Cores = 0, 0 },
		"65 cores":                        func(s *api.State) { s.Config.Cores[1], s.Nodes[1].Cores = maxCores+1, maxCores+1 },
		"33 nodes":                        func(s *api.State) { s.Config.Cores = slices.Repeat(of(4), 33); s.Nodes = upNodes(s.Config.Cores) },
		"no nodes":                        func(s *api.State) { s.Config.Cores, s.Nodes = nil, nil },
	}
}

// wrongTimes are such that rich's times are not right any more.
func wrongTimes() map[string]change {
	return map[string]change{
		"Now 0":                           func(s *api.State) { s.Now = 0 },
		"Now -1":                          func(s *api.State) { s.Now = -1 },
		"Now the least":                   func(s *api.State) { s.Now = math.MinInt64 },
		"Now one less":                    func(s *api.State) { s.Now = 49 },
		"Now one more":                    func(s *api.State) { s.Now = 51 },
		"Now MaxTime":                     func(s *api.State) { s.Now = maxTime },
		"Now above MaxTime, no jobs":      func(s *api.State) { s.Now, s.Jobs, s.Promises = maxTime+1, nil, nil },
		"Now the most, no jobs":           func(s *api.State) { s.Now, s.Jobs, s.Promises = math.MaxInt64, nil, nil },
		"Now -1, no jobs":                 func(s *api.State) { s.Now, s.Jobs, s.Promises = -1, nil, nil },
		"pending, submitted later":        func(s *api.State) { s.Jobs[thePending].Submit = 51 },
		"pending, submitted at MaxTime":   func(s *api.State) { s.Jobs[thePending].Submit = maxTime },
		"running, starts later":           func(s *api.State) { s.Jobs[theRunning].Start = 51 },
		"running, submitted later":        func(s *api.State) { s.Jobs[theRunning].Submit, s.Jobs[theRunning].Start = 51, 51 },
		"over later":                      func(s *api.State) { s.Jobs[theCompleted].End = 51 },
		"over, started later":             func(s *api.State) { s.Jobs[theCompleted].Start, s.Jobs[theCompleted].End = 51, 51 },
		"cancelled later":                 func(s *api.State) { s.Jobs[theCancelled].End = 51 },
		"cancelled, submitted later":      func(s *api.State) { s.Jobs[theCancelled].Submit, s.Jobs[theCancelled].End = 51, 51 },
		"runs till Now":                   func(s *api.State) { s.Jobs[theRunning].Start = 40 },
		"runs till below Now":             func(s *api.State) { s.Jobs[theRunning].Submit, s.Jobs[theRunning].Start = 39, 39 },
		"runs till Now by its limit":      func(s *api.State) { s.Jobs[theRunning].Spec.Limit = 5 },
		"runs till below Now, by a limit": func(s *api.State) { s.Jobs[theRunning].Spec.Limit = 1 },
		"has run from 0 on":               func(s *api.State) { s.Jobs[theRunning].Submit, s.Jobs[theRunning].Start = 0, 0 },
	}
}

// wrongNodes are such that rich's nodes or reservations are not right any more.
func wrongNodes() map[string]change {
	return map[string]change{
		"no node stands there":       func(s *api.State) { s.Nodes = nil },
		"a node too few":             func(s *api.State) { s.Nodes = s.Nodes[:1] },
		"a node too many":            func(s *api.State) { s.Nodes = append(s.Nodes, s.Nodes[0]) },
		"too many of all":            func(s *api.State) { s.Nodes = slices.Repeat(s.Nodes, 17) },
		"a core more":                func(s *api.State) { s.Nodes[0].Cores = 5 },
		"a core less":                func(s *api.State) { s.Nodes[1].Cores = 3 },
		"no cores":                   func(s *api.State) { s.Nodes[1].Cores = 0 },
		"the config has a core more": func(s *api.State) { s.Config.Cores[1] = 5 },
		"the config has a node more": func(s *api.State) { s.Config.Cores = of(4, 4, 4) },
		"exchanged":                  func(s *api.State) { s.Config.Cores, s.Nodes = of(4, 5), upNodes(of(5, 4)) },
		"epoch 0":                    func(s *api.State) { s.Nodes[0].Epoch = 0 },
		"epoch -1":                   func(s *api.State) { s.Nodes[1].Epoch = -1 },
		"an epoch too great":         func(s *api.State) { s.Nodes[1].Epoch = 1<<30 + 1 },
		"a down one of epoch 0":      func(s *api.State) { s.Nodes[1] = api.Node{Cores: 4} },
		"reservations fall":          func(s *api.State) { s.Resvs[0], s.Resvs[1] = s.Resvs[1], s.Resvs[0] },
		"a reservation twice":        func(s *api.State) { s.Resvs = append(s.Resvs, s.Resvs[1]) },
		"reservations clash":         func(s *api.State) { s.Resvs[0].Nodes, s.Resvs[0].To = 3, 91 },
		"a reservation for nobody":   func(s *api.State) { s.Resvs[0].Accounts = nil },
		"one for no account":         func(s *api.State) { s.Resvs[0].Accounts = of("x") },
		"one of no node":             func(s *api.State) { s.Resvs[1].Nodes = 0 },
		"one of a node too many":     func(s *api.State) { s.Resvs[1].Nodes = 4 },
		"one of no time":             func(s *api.State) { s.Resvs[1].To = 90 },
		"one from -1":                func(s *api.State) { s.Resvs[1].From = -1 },
		"one above MaxTime":          func(s *api.State) { s.Resvs[1].To = maxTime + 1 },
		"one without a name":         func(s *api.State) { s.Resvs[0].Name = "" },
		"too many reservations":      func(s *api.State) { s.Resvs = manyResvs(maxResvs + 1) },
	}
}

// wrongJobs are such that one of rich's jobs, or Next, is not right any more.
func wrongJobs() map[string]change {
	all := map[string]change{
		"two of one Id":                     func(s *api.State) { s.Jobs[theFailed].Id = 1 },
		"the last two of one Id":            func(s *api.State) { s.Jobs[theNew].Id = 8 },
		"ids fall":                          func(s *api.State) { s.Jobs[theFailed].Id = 4 },
		"the last id falls":                 func(s *api.State) { s.Jobs[theNew].Id = 4 },
		"two exchanged":                     func(s *api.State) { s.Jobs[thePending], s.Jobs[theNew] = s.Jobs[theNew], s.Jobs[thePending] },
		"the same twice":                    func(s *api.State) { s.Jobs = append(s.Jobs, s.Jobs[theNew]) },
		"id 0":                              func(s *api.State) { s.Jobs[theCompleted].Id = 0 },
		"id -1":                             func(s *api.State) { s.Jobs[theCompleted].Id = -1 },
		"id above MaxId":                    func(s *api.State) { s.Jobs[theNew].Id, s.Next = maxId+1, maxId+2 },
		"id MaxId and one, Next the same":   func(s *api.State) { s.Jobs[theNew].Id, s.Next = maxId+1, maxId+1 },
		"Next the greatest Id":              func(s *api.State) { s.Next = 9 },
		"Next below the greatest Id":        func(s *api.State) { s.Next = 8 },
		"Next 1":                            func(s *api.State) { s.Next = 1 },
		"Next 0":                            func(s *api.State) { s.Next = 0 },
		"Next -1":                           func(s *api.State) { s.Next = -1 },
		"Next the least":                    func(s *api.State) { s.Next = math.MinInt },
		"Next MaxId and two":                func(s *api.State) { s.Next = maxId + 2 },
		"Next the most":                     func(s *api.State) { s.Next = math.MaxInt },
		"Next 0, no jobs":                   func(s *api.State) { s.Next, s.Jobs, s.Promises = 0, nil, nil },
		"Next -1, no jobs":                  func(s *api.State) { s.Next, s.Jobs, s.Promises = -1, nil, nil },
		"Next MaxId and two, no jobs":       func(s *api.State) { s.Next, s.Jobs, s.Promises = maxId+2, nil, nil },
		"state 0":                           func(s *api.State) { s.Jobs[theCancelled].State = 0 },
		"state 9":                           func(s *api.State) { s.Jobs[theCancelled].State = 9 },
		"pending, with a start":             func(s *api.State) { s.Jobs[theOther].Start = 1 },
		"pending, with nodes":               func(s *api.State) { s.Jobs[theOther].On = 1 },
		"running, with an end":              func(s *api.State) { s.Jobs[theRunning].End = 50 },
		"running on no node":                func(s *api.State) { s.Jobs[theRunning].On = 0 },
		"running on a node too many":        func(s *api.State) { s.Jobs[theRunning].On = 3 },
		"started ahead of its submit":       func(s *api.State) { s.Jobs[theNew].Start = 49; s.Jobs[theNew].Spec.Limit = 9 },
		"over ahead of its start":           func(s *api.State) { s.Jobs[theCompleted].End = 1 },
		"submitted at -1":                   func(s *api.State) { s.Jobs[thePending].Submit = -1 },
		"completed, with an exit":           func(s *api.State) { s.Jobs[theCompleted].Exit = 1 },
		"failed, without an exit":           func(s *api.State) { s.Jobs[theFailed].Exit = 0 },
		"of a later job":                    func(s *api.State) { s.Jobs[thePending].Of = 7 },
		"an index of -1":                    func(s *api.State) { s.Jobs[thePending].Index = -1 },
		"running, a core too many":          func(s *api.State) { s.Jobs[theNew].On, s.Jobs[theNew].Spec.Cores = 1, 3 },
		"running, the first one too great":  func(s *api.State) { s.Jobs[theRunning].Spec.Cores = 4; s.Jobs[theNew].On = 1 },
		"running on a node that is not":     func(s *api.State) { s.Jobs[theNew].On = 4 },
		"running on the last node of all":   func(s *api.State) { s.Jobs[theNew].On = 1 << 31 },
		"running, one of its nodes is not":  func(s *api.State) { s.Jobs[theNew].Spec.Nodes, s.Jobs[theNew].On = 2, 6 },
		"promises exchanged":                func(s *api.State) { s.Promises[0], s.Promises[1] = s.Promises[1], s.Promises[0] },
		"a promise twice":                   func(s *api.State) { s.Promises = append(s.Promises, s.Promises[1]) },
		"the first promise twice":           func(s *api.State) { s.Promises = append(s.Promises[:1:1], s.Promises[0]) },
		"two promises of one job":           func(s *api.State) { s.Promises[1].Id, s.Promises[1].On = 6, 3 },
		"promised, and runs":                func(s *api.State) { s.Promises = append(s.Promises, api.Promise{Id: 9, Start: 50, On: 1}) },
		"promised, and completed":           func(s *api.State) { s.Promises = append(of(api.Promise{Id: 1, Start: 50, On: 1}), s.Promises...) },
		"promised, and cancelled":           func(s *api.State) { s.Promises = append(of(api.Promise{Id: 5, Start: 50, On: 1}), s.Promises...) },
		"promised, and not there":           func(s *api.State) { s.Promises[1].Id = 7 },
		"promised, of a job still to come":  func(s *api.State) { s.Promises[1].Id = 12 },
		"promised, of job 0":                func(s *api.State) { s.Promises[0].Id = 0 },
		"promised, and now never":           func(s *api.State) { s.Jobs[thePending] = left(s.Jobs[thePending], api.Never, 50) },
		"promised -1":                       func(s *api.State) { s.Promises[0].Start = -1 },
		"promised the least":                func(s *api.State) { s.Promises[1].Start = math.MinInt64 },
		"promised above MaxTime":            func(s *api.State) { s.Promises[1].Start = maxTime + 1 },
		"promised the most":                 func(s *api.State) { s.Promises[0].Start = math.MaxInt64 },
		"promised on no node":               func(s *api.State) { s.Promises[1].On = 0 },
		"promised on a node too few":        func(s *api.State) { s.Promises[0].On = 2 },
		"promised on a node too many":       func(s *api.State) { s.Promises[1].On = 3 },
		"promised on three for two":         func(s *api.State) { s.Promises[0].On = 7 },
		"promised on all":                   func(s *api.State) { s.Promises[0].On = math.MaxUint32 },
		"promises of the same job's places": func(s *api.State) { s.Promises = of(api.Promise{Id: 6, On: 1}, api.Promise{Id: 8, On: 3}) },
	}
	for name, ask := range wrongAsks() {
		for i, who := range of("completed", "failed", "running", "cancelled", "pending", "the other", "the new") {
			all[who+": "+name] = func(s *api.State) { ask(&s.Jobs[i].Spec, s.Jobs[i].Id) }
		}
	}
	return all
}

// wrongAsks are what no job of rich with that id may ask for.
func wrongAsks() map[string]func(x *api.Spec, id int) {
	return map[string]func(x *api.Spec, id int){
		"no user":                       func(x *api.Spec, id int) { x.User = "" },
		"a user in capitals":            func(x *api.Spec, id int) { x.User = "Ann" },
		"no such partition":             func(x *api.Spec, id int) { x.Part = "x" },
		"no partition":                  func(x *api.Spec, id int) { x.Part = "" },
		"no such account":               func(x *api.Spec, id int) { x.Account = "x" },
		"no such quality":               func(x *api.Spec, id int) { x.Qos = "x" },
		"a partition not for it":        func(x *api.Spec, id int) { x.Part, x.Account = "big", "bio" },
		"longer than its partition":     func(x *api.Spec, id int) { x.Part, x.Account, x.Limit = "big", "phys", 101 },
		"longer than MaxLimit":          func(x *api.Spec, id int) { x.Limit = maxLimit + 1 },
		"no time":                       func(x *api.Spec, id int) { x.Limit = 0 },
		"more cores than a node has":    func(x *api.Spec, id int) { x.Cores = 5 },
		"no cores":                      func(x *api.Spec, id int) { x.Cores = 0 },
		"more nodes than there are":     func(x *api.Spec, id int) { x.Nodes = 3 },
		"no nodes":                      func(x *api.Spec, id int) { x.Nodes = 0 },
		"waits for itself":              func(x *api.Spec, id int) { x.Deps = of(anyEnd(id)) },
		"waits for one to come":         func(x *api.Spec, id int) { x.Deps = of(anyEnd(id + 1)) },
		"waits for one far off":         func(x *api.Spec, id int) { x.Deps = of(good(maxId)) },
		"waits for job 0":               func(x *api.Spec, id int) { x.Deps = of(good(0)) },
		"waits for itself, last":        func(x *api.Spec, id int) { x.Deps = append(clone(x.Deps), bad(id)) },
		"waits for one in no kind":      func(x *api.Spec, id int) { x.Deps = of(api.Dep{Id: 1}) },
		"waits for one in a 4th kind":   func(x *api.Spec, id int) { x.Deps = of(api.Dep{Kind: 4, Id: 1}) },
		"waits for one twice":           func(x *api.Spec, id int) { x.Deps = of(good(1), good(1)) },
		"waits for five":                func(x *api.Spec, id int) { x.Deps = of(good(1), bad(1), anyEnd(1), good(2), bad(2)) },
		"waits for many":                func(x *api.Spec, id int) { x.Deps = slices.Repeat(of(good(1)), 1000) },
		"waits for the next id, not it": func(x *api.Spec, id int) { x.Deps = of(good(12)) },
	}
}

// P22.1: Right, with each edge that the document names; and what is not right, Profile, Put and Pass refuse.
func TestRight(t *testing.T) {
	for name, change := range rightChanges() {
		s := rich()
		change(&s)
		checkRight(t, name, s, true)
	}
	for _, all := range of(wrongConfigs(), wrongTimes(), wrongNodes(), wrongJobs()) {
		for name, change := range all {
			s := rich()
			change(&s)
			checkRight(t, name, s, false)
		}
	}
}

// P22.1: what is wrong stays so, whatever else is changed rightly.
func TestWrongBesideRight(t *testing.T) {
	d := dice(1)
	var changes, wrongs []change
	for _, all := range of(wrongConfigs(), wrongTimes(), wrongNodes(), wrongJobs()) {
		for _, change := range all {
			wrongs = append(wrongs, change)
		}
	}
	for _, change := range rightChanges() {
		changes = append(changes, change)
	}
	wrong := 0
	for range 20000 {
		s := rich()
		all := of(one(&d, wrongs), one(&d, wrongs))
		if d.below(2) == 0 {
			all = of(one(&d, changes), one(&d, changes))
		}
		if !try(all, &s) {
			continue // the second one changes what the first has taken away
		}
		want := isRight(s)
		if !want {
			wrong++
		}
		if is := fifo.Right(s); is != want {
			t.Fatalf("%v: %v", s, is)
		}
	}
	if wrong < 8000 || wrong > 18000 {
		t.Errorf("the test is wrong: %d are wrong", wrong)
	}
}

// try makes changes; false if one of them can't be made.
func try(all []change, s *api.State) (made bool) {
	defer func() { made = recover() == nil }()
	for _, change := range all {
		change(s)
	}
	return
}

// P22.1: an empty state, at each time, and none at all.
func TestRightOfEmpty(t *testing.T) {
	for _, now := range of[int64](math.MinInt64, -1, 0, 1, maxTime-1, maxTime, maxTime+1, math.MaxInt64) {
		for _, next := range of(math.MinInt, -1, 0, 1, 2, maxId, maxId+1, maxId+2, math.MaxInt) {
			s := empty(now)
			s.Next = next
			checkRight(t, "empty", s, now >= 0 && now <= maxTime && next >= 1 && next <= maxId+1)
		}
	}
	checkRight(t, "nothing", api.State{}, false)
	checkRight(t, "nothing but Next", api.State{Next: 1}, false)
}

// P22.1: each count of jobs that are not over, and any of those that are.
func TestRightOfCounts(t *testing.T) {
	for count := range 2 * maxJobs {
		s := empty(9)
		s.Config.Cores = slices.Repeat(of(4), maxNodes)
		s.Nodes = upNodes(s.Config.Cores)
		over := over(waits(1, 1, 4, 10), api.Completed, 1, 0, 9)
		pending := waits(1, 1, 4, 10)
		for name, make := range map[string]func(i int) api.Job{
			"pending":             func(i int) api.Job { return pending },
			"running":             func(i int) api.Job { return runs(waits(1, 1, 1, 10), 1<<(i%maxNodes), 0) },
			"some of both":        func(i int) api.Job { return of(pending, runs(waits(1, 1, 1, 10), 1<<(i/2%maxNodes), 5))[i%2] },
			"over":                func(i int) api.Job { return over },
			"the last pending":    func(i int) api.Job { return of(over, pending)[min(i/100, 1)] },
			"the first pending":   func(i int) api.Job { return of(pending, over)[min(i/100, 1)] },
			"each second pending": func(i int) api.Job { return of(over, pending)[i%2] },
		} {
			s.Jobs = nil
			for i := range count {
				j := make(i)
				j.Id = i + 1
				s.Jobs = append(s.Jobs, j)
			}
			s.Next = count + 1
			open := count
			switch name {
			case "over":
				open = 0
			case "the last pending":
				open = max(0, count-100)
			case "the first pending":
				open = min(count, 100)
			case "each second pending":
				open = count / 2
			}
			what := strconv.Itoa(count) + " jobs: " + name
			if want := open <= maxJobs; fifo.Right(s) != want || isRight(s) != want {
				t.Errorf("%s: %v", what, !want)
			}
		}
	}
}

// P22.1: running ones on each node of as many as may be, up to its brim and one core above.
func TestRightOfFit(t *testing.T) {
	for node := range maxNodes {
		for count := 1; count <= maxNodes; count++ {
			for _, cores := range of(1, 32, 33) {
				s := empty(9)
				s.Config.Cores = slices.Repeat(of(maxCores), count)
				s.Config.Parts = s.Config.Parts[:1]
				s.Config.Parts[0].Nodes = 1
				s.Nodes = upNodes(s.Config.Cores)
				s.Jobs = of(runs(waits(1, 1, 32, 10), 1<<node, 0), runs(waits(2, 1, cores, 10), 1<<node, 9))
				s.Next = 3
				want := node < count && cores < 33
				if is := fifo.Right(s); is != want || isRight(s) != want {
					t.Fatalf("node %d of %d, %d cores: %v", node, count, cores, is)
				}
			}
		}
	}
}

// P22.1: Right of any states, right ones and some with something changed.
func TestRightOfAny(t *testing.T) {
	d := dice(2)
	right := 0
	for range 20000 {
		s := d.state()
		if !fifo.Right(s) || !isRight(s) {
			t.Fatalf("%v: is not right: %v, %v", s, fifo.Right(s), isRight(s))
		}
		for range 1 + d.below(2) {
			d.bend(&s)
		}
		want := isRight(s)
		if is := fifo.Right(s); is != want {
			t.Fatalf("%v: %v", s, is)
		}
		if want {
			right++
		}
	}
	if right < 3000 || right > 15000 {
		t.Errorf("the test is wrong: %d are right", right)
	}
}
