package fifo_test

import (
	"slices"
	"testing"

	"muster/api"
	"muster/fifo"
)

// on is a start.
func on(id int, nodes api.Set) api.Start { return api.Start{Id: id, On: nodes} }

// P22.3: no job, and none that is pending.
func TestPassOfNobody(t *testing.T) {
	checkPass(t, "no job", empty(0))
	checkPass(t, "no job, at MaxTime", empty(maxTime))
	checkPass(t, "one runs", with(5, runs(waits(1, 1, 1, 10), 1, 0)))
	s := with(9)
	for i, state := range of(api.Completed, api.Failed, api.Timeout, api.Cancelled, api.NodeFail) {
		s.Jobs = append(s.Jobs, over(waits(1+i, 1, 1, 10), state, 1, 5, 8))
	}
	s.Jobs = append(s.Jobs, left(waits(6, 1, 1, 10), api.Never, 8), left(waits(7, 1, 1, 10), api.Cancelled, 8))
	s.Next = 8
	checkPass(t, "all are over", s)
}

// P22.3: who starts, and where: the lowest nodes that are free.
func TestPassStarts(t *testing.T) {
	checkPass(t, "one node", with(5, waits(1, 1, 1, 10)), on(1, 1))
	checkPass(t, "two nodes", with(5, waits(1, 2, 4, 10)), on(1, 3))
	checkPass(t, "at 0", with(0, waits(1, 1, 1, 10)), on(1, 1))
	checkPass(t, "at MaxTime", with(maxTime, waits(1, 1, 1, maxLimit)), on(1, 1))
	checkPass(t, "the higher node", with(5, runs(waits(1, 1, 4, 10), 1, 0), waits(2, 1, 1, 10)), on(2, 2))
	checkPass(t, "beside what runs", with(5, runs(waits(1, 1, 3, 10), 1, 0), waits(2, 1, 1, 10)), on(2, 1))
	checkPass(t, "beside one another", with(5, waits(1, 1, 2, 10), waits(2, 1, 2, 10), waits(3, 1, 2, 10), waits(4, 1, 2, 10)), on(1, 1), on(2, 1), on(3, 2), on(4, 2))
	checkPass(t, "one behind another", with(5, waits(1, 1, 3, 10), waits(2, 1, 2, 10), waits(3, 1, 1, 10), waits(4, 1, 2, 10)), on(1, 1), on(2, 2), on(3, 1), on(4, 2))
	checkPass(t, "in the partition of node 1", with(5, in("big", waits(1, 1, 3, 10))), on(1, 2))
	checkPass(t, "where one was, that is over", with(5, over(waits(1, 2, 4, 10), api.Completed, 3, 0, 5), waits(2, 2, 4, 10)), on(2, 3))
	checkPass(t, "ids far apart", with(5, waits(7, 1, 4, 10), waits(500, 1, 4, 10)), on(7, 1), on(500, 2))
	s := with(5, waits(1, 1, 1, 10))
	s.Nodes[0].Up = false
	checkPass(t, "the node that is up", s, on(1, 2))
}

// P22.3: behind the first that waits for room nobody starts, though there would be room.
func TestPassStops(t *testing.T) {
	small := waits(9, 1, 1, 1)
	checkPass(t, "the first waits", with(5, runs(waits(1, 1, 4, 10), 1, 0), waits(2, 2, 1, 10), small))
	checkPass(t, "the second waits", with(5, waits(1, 1, 4, 10), waits(2, 2, 1, 10), small), on(1, 1))
	checkPass(t, "the last waits", with(5, waits(1, 1, 4, 10), waits(2, 1, 4, 10), small), on(1, 1), on(2, 2))
	checkPass(t, "for a tick", with(9, runs(waits(1, 1, 4, 10), 1, 0), waits(2, 2, 1, 10), small))
	checkPass(t, "it ends at MaxTime", with(maxTime-1, runs(sent(waits(1, 1, 4, 1), maxTime-1), 1, maxTime-1), waits(2, 2, 1, 10), small))
	checkPass(t, "all of it", with(5, waits(1, 2, 4, 10), waits(2, 2, 4, 10), waits(3, 2, 4, 10)), on(1, 3))
	checkPass(t, "the same size", with(5, waits(1, 1, 3, 10), waits(2, 1, 3, 10), waits(3, 1, 3, 10), small), on(1, 1), on(2, 2))
}

// P22.3: one that never fits is passed over: too few of its nodes are up, or there will be room above MaxTime alone.
func TestPassOverWhoNeverFits(t *testing.T) {
	small := waits(9, 1, 1, 1)
	s := with(5, waits(1, 2, 1, 10), small)
	s.Nodes[0].Up = false
	checkPass(t, "a node is down", s, on(9, 2))
	s.Jobs = of(waits(1, 1, 1, 10), small)
	s.Nodes[1].Up = false
	checkPass(t, "both are down", s)
	s = with(5, in("big", waits(1, 1, 1, 10)), small)
	s.Nodes[1].Up = false
	checkPass(t, "its partition is down", s, on(9, 1))
	s = with(5, waits(1, 1, 8, 10), small)
	s.Config.Cores[1], s.Nodes = 8, upNodes(of(4, 8))
	s.Nodes[1].Up = false
	checkPass(t, "the node with as many cores is down", s, on(9, 1))
	last := with(maxTime-1, runs(sent(waits(1, 1, 4, 2), maxTime-1), 1, maxTime-1), waits(2, 2, 1, 10), small)
	checkPass(t, "above MaxTime", last, on(9, 2))
	last = with(maxTime, runs(sent(waits(1, 1, 4, 1), maxTime), 1, maxTime), waits(2, 2, 1, 10), waits(3, 2, 1, 1), small)
	checkPass(t, "at MaxTime itself", last, on(9, 2))
	last = with(maxTime, waits(2, 1, 4, 10), waits(3, 2, 1, 1), small)
	checkPass(t, "by a start of the same pass", last, on(2, 1), on(9, 2))
}

// P22.3: one that may not start is passed over, for each of the reasons alone; with a start of the same pass, too.
func TestPassOverWhoMayNot(t *testing.T) {
	for what, change := range map[string]change{
		"it waits":                       func(s *api.State) { s.Jobs[2].Spec.Deps = of(anyEnd(1)) },
		"it waits for one that waits":    func(s *api.State) { s.Jobs[2].Spec.Deps = of(anyEnd(2)) },
		"it waits for two":               func(s *api.State) { s.Jobs[2].Spec.Deps = of(good(1), bad(1)) },
		"it waits for nobody":            func(s *api.State) { s.Jobs[2].Spec.Deps = of(anyEnd(3)) },
		"its account's limit":            func(s *api.State) { s.Config.Accounts[1].Limit = 5 },
		"its account's limit, of 0":      func(s *api.State) { s.Config.Accounts[1].Limit = 0 },
		"the limit of the account above": func(s *api.State) { s.Config.Accounts[0].Limit = 5 },
		"its quality's cores":            func(s *api.State) { s.Config.Qos[0].Limit = 5 },
		"its quality's jobs":             func(s *api.State) { s.Config.Qos[0].Jobs = 1 },
		"its quality's jobs, of 0":       func(s *api.State) { s.Config.Qos[0].Jobs = 0 },
	} {
		// Job 1 runs with 2 cores of phys; 5, of bio and high, may start in any case.
		s := with(5, runs(waits(1, 1, 2, 10), 1, 0), at("high", by("bio", waits(2, 1, 1, 10, bad(1)))), waits(4, 2, 2, 10), at("high", by("bio", waits(5, 1, 1, 10))))
		s.Config.Qos[1].Prio = 0
		checkPass(t, "not yet: "+what, s, on(4, 3), on(5, 2))
		change(&s)
		checkPass(t, what, s, on(5, 1))
	}
	full := with(5, runs(waits(1, 2, 4, 10), 3, 0), waits(2, 1, 1, 10, good(1)), waits(3, 1, 1, 10))
	checkPass(t, "one that may not waits for no room, nor does the next start", full)
	full.Jobs[2].Spec.Deps = of(good(1))
	checkPass(t, "none may", full)
}

// P22.3: limits that a start of the same pass uses up, to the brim and one core more.
func TestPassUsesUpLimits(t *testing.T) {
	three := func() api.State {
		return with(5, waits(1, 1, 2, 10), by("lab", waits(2, 1, 2, 10)), waits(3, 1, 1, 10), by("bio", waits(4, 1, 1, 10)))
	}
	all := of(on(1, 1), on(2, 1), on(3, 2), on(4, 2))
	for what, used := range map[string]struct {
		change change
		starts []api.Start
	}{
		"no limit":                      {func(s *api.State) {}, all},
		"an account's, to its brim":     {func(s *api.State) { s.Config.Accounts[1].Limit = 5 }, all},
		"an account's, one core less":   {func(s *api.State) { s.Config.Accounts[1].Limit = 4 }, of(on(1, 1), on(2, 1), on(4, 2))},
		"an account's, two cores less":  {func(s *api.State) { s.Config.Accounts[1].Limit = 3 }, of(on(1, 1), on(3, 1), on(4, 1))},
		"an account's, three less":      {func(s *api.State) { s.Config.Accounts[1].Limit = 2 }, of(on(1, 1), on(4, 1))},
		"an account's, four less":       {func(s *api.State) { s.Config.Accounts[1].Limit = 1 }, of(on(3, 1), on(4, 1))},
		"the one below has none":        {func(s *api.State) { s.Config.Accounts[3].Limit = 1 }, of(on(1, 1), on(3, 1), on(4, 1))},
		"the root's, to its brim":       {func(s *api.State) { s.Config.Accounts[0].Limit = 6 }, all},
		"the root's, one core less":     {func(s *api.State) { s.Config.Accounts[0].Limit = 5 }, all[:3]},
		"a quality's, to its brim":      {func(s *api.State) { s.Config.Qos[0].Limit = 6 }, all},
		"a quality's, one core less":    {func(s *api.State) { s.Config.Qos[0].Limit = 5 }, all[:3]},
		"a quality's, three cores":      {func(s *api.State) { s.Config.Qos[0].Limit = 3 }, of(on(1, 1), on(3, 1))},
		"a quality's jobs, four":        {func(s *api.State) { s.Config.Qos[0].Jobs = 4 }, all},
		"a quality's jobs, three":       {func(s *api.State) { s.Config.Qos[0].Jobs = 3 }, all[:3]},
		"a quality's jobs, one":         {func(s *api.State) { s.Config.Qos[0].Jobs = 1 }, all[:1]},
		"a quality's jobs, none at all": {func(s *api.State) { s.Config.Qos[0].Jobs = 0 }, nil},
		"another quality's":             {func(s *api.State) { s.Config.Qos[1].Jobs, s.Config.Qos[1].Limit = 0, 0 }, all},
	} {
		s := three()
		used.change(&s)
		checkPass(t, what, s, used.starts...)
	}
}

// P22.3: the queue's order: partitions count ahead of qualities, and these ahead of ids; who is ahead starts, or waits, first.
func TestPassInOrder(t *testing.T) {
	jobs := func(cores int) []api.Job {
		return of(waits(1, 1, cores, 10), at("high", waits(2, 1, cores, 10)), in("big", waits(3, 1, cores, 10)), at("high", in("big", waits(4, 1, cores, 10))))
	}
	checkPass(t, "room for all", with(5, jobs(1)...), on(4, 2), on(3, 2), on(2, 1), on(1, 1))
	checkPass(t, "room for two on each node", with(5, jobs(2)...), on(4, 2), on(3, 2), on(2, 1), on(1, 1))
	checkPass(t, "room for one on each node", with(5, jobs(3)...), on(4, 2))
	first := with(5, waits(1, 1, 1, 10), at("high", waits(2, 2, 4, 10)))
	checkPass(t, "the later one is ahead", first, on(2, 3))
	first.Jobs[1].Spec.Deps = of(good(1))
	checkPass(t, "the later one is ahead, and waits for the other", first, on(1, 1))
	waiting := with(5, runs(waits(1, 1, 4, 10), 1, 0), waits(2, 1, 1, 10), at("high", waits(3, 2, 1, 10)))
	checkPass(t, "the later one is ahead, and waits for room", waiting)
}

// P22.3: reservations that do not admit a job's account: it keeps out of them, all its window long; of one that admits it, it does not.
func TestPassBesideReservations(t *testing.T) {
	now := with(5, waits(1, 1, 1, 10), waits(2, 2, 1, 5))
	for what, x := range map[string]struct {
		resvs  []api.Resv
		starts []api.Start
	}{
		"none":                               {nil, of(on(1, 1), on(2, 3))},
		"now, not for it":                    {of(held("r", 1, 0, 9, "bio")), of(on(1, 2))},
		"now, for it":                        {of(held("r", 1, 0, 9, "phys")), of(on(1, 1), on(2, 3))},
		"now, for the account above":         {of(held("r", 1, 0, 9, "all")), of(on(1, 1), on(2, 3))},
		"now, for the account below":         {of(held("r", 1, 0, 9, "lab")), of(on(1, 2))},
		"now, for it and others":             {of(held("r", 1, 0, 9, "bio", "phys")), of(on(1, 1), on(2, 3))},
		"over":                               {of(held("r", 3, 0, 5, "bio")), of(on(1, 1), on(2, 3))},
		"its last tick":                      {of(held("r", 3, 0, 6, "bio")), nil},
		"in the first's last tick":           {of(held("r", 1, 14, 20, "bio")), of(on(1, 2), on(2, 3))},
		"behind the first, within neither":   {of(held("r", 1, 15, 20, "bio")), of(on(1, 1), on(2, 3))},
		"behind the second":                  {of(held("r", 1, 10, 20, "bio")), of(on(1, 2), on(2, 3))},
		"in the second's last tick":          {of(held("r", 1, 9, 20, "bio")), of(on(1, 2))},
		"both nodes, for a while":            {of(held("r", 3, 7, 8, "bio")), nil},
		"both nodes, by two":                 {of(held("r", 1, 7, 8, "bio"), held("s", 2, 9, 12, "bio")), nil},
		"both nodes, one for it":             {of(held("r", 1, 7, 8, "bio"), held("s", 2, 9, 12, "phys")), of(on(1, 2))},
		"up to MaxTime, at which it may":     {of(held("r", 3, 7, maxTime, "bio")), nil},
		"the higher node, which one needs":   {of(held("r", 2, 7, maxTime, "bio")), of(on(1, 1))},
		"the higher node, far off":           {of(held("r", 2, 70, maxTime, "bio")), of(on(1, 1), on(2, 3))},
		"both nodes, far off, by their end":  {of(held("r", 3, maxTime-1, maxTime, "bio")), of(on(1, 1), on(2, 3))},
		"the lower one from now on":          {of(held("r", 1, 5, 6, "bio")), of(on(1, 2))},
		"the lower one up to now":            {of(held("r", 1, 4, 5, "bio")), of(on(1, 1), on(2, 3))},
		"one that admits stands by one node": {of(held("r", 1, 5, 90, "phys"), held("s", 2, 15, 90, "bio")), of(on(1, 1), on(2, 3))},
	} {
		s := anew(now)
		s.Resvs = x.resvs
		checkPass(t, what, s, x.starts...)
	}
	s := with(5, by("bio", waits(1, 1, 4, 10)), waits(2, 1, 4, 10))
	s.Resvs = of(held("r", 1, 0, 9, "phys"))
	checkPass(t, "who is kept out leaves it to others", s, on(1, 2), on(2, 1))
}

// P22.3: a pass asks neither the policy nor promises.
func TestPassAsksNothingElse(t *testing.T) {
	for _, policy := range of(api.Fifo, api.Easy, api.Conservative) {
		s := with(5, waits(1, 1, 4, 10), waits(2, 2, 1, 10), waits(3, 1, 1, 10))
		s.Config.Policy = policy
		checkPass(t, "policy", s, on(1, 1))
		s.Promises = of(api.Promise{Id: 1, Start: 90, On: 2}, api.Promise{Id: 2, Start: 5, On: 3}, api.Promise{Id: 3, Start: 5, On: 2})
		checkPass(t, "policy, promises", s, on(1, 1))
	}
}

// P22.3: as many as there may be, all of which start, or all but one.
func TestPassOfMany(t *testing.T) {
	s := empty(5)
	s.Config.Cores = slices.Repeat(of(3), maxNodes)
	s.Nodes = upNodes(s.Config.Cores)
	s.Config.Parts[0].Nodes = 1<<32 - 1
	var want []api.Start
	for i := range maxJobs {
		s.Jobs = append(s.Jobs, waits(i+1, 1, 1, 10))
		want = append(want, on(i+1, 1<<(i/3)))
	}
	s.Next = maxJobs + 1
	checkPass(t, "all start", s, want...)
	s.Jobs[40].Spec.Cores = 2 // fits just beside the one ahead of it
	s.Jobs[41].Spec.Deps = of(good(1))
	checkPass(t, "one is greater, another may not", s, passOf(s)...)
	s.Jobs[40].Spec.Cores = 3
	l, e := fifo.Pass(s)
	if e != api.OK || !slices.Equal(l, passOf(s)) || len(l) != maxJobs-2 { // one may not, and one core is wanting for the last
		t.Errorf("%v, %d", l, e)
	}
	s.Jobs[0].Spec.Nodes = maxNodes
	s.Jobs[0].Spec.Cores = 3
	checkPass(t, "the first takes all", s, on(1, 1<<32-1))
}

// P22.3: a pass of any right state.
func TestPassOfAny(t *testing.T) {
	d := dice(7)
	starts, stops, none := 0, 0, 0
	for range 30000 {
		s := d.state()
		want, waiting := walk(s)
		if l, e := fifo.Pass(s); e != api.OK || !slices.Equal(l, want) {
			t.Fatalf("%v: %v, %d, not %v", s, l, e, want)
		}
		starts += len(want)
		if waiting > 0 {
			stops++
		} else if len(want) == 0 {
			none++
		}
	}
	if starts < 12000 || stops < 4000 || none < 5000 {
		t.Errorf("the test is wrong: %d starts, %d stops, %d without any", starts, stops, none)
	}
}
