package fifo_test

import (
	"math"
	"slices"
	"testing"

	"muster/api"
	"muster/fifo"
)

// checkProfile asks for the profile of a right state, of which it is told the cuts of each node.
func checkProfile(t *testing.T, what string, s api.State, want ...[]api.Cut) {
	t.Helper()
	if !isRight(s) || !sameProfile(profileOf(s), want) {
		t.Errorf("%s: the test is wrong: %v", what, profileOf(s))
	}
	for range 2 {
		if p, e := fifo.Profile(s); e != api.OK || !sameProfile(p, want) {
			t.Errorf("%s: %v, %d, not %v", what, p, e, want)
		}
	}
}

// flat is the cuts of a node on which nothing ever changes.
func flat(free int) []api.Cut { return of(api.Cut{Free: free}) }

// P22.1: what each node has free, by time: what runs takes its cores from its start to its start and limit, and nothing else does.
func TestProfile(t *testing.T) {
	checkProfile(t, "empty", empty(0), flat(4), flat(4))
	checkProfile(t, "empty, at MaxTime", empty(maxTime), flat(4), flat(4))
	checkProfile(t, "pending", with(9, waits(1, 2, 4, 10)), flat(4), flat(4))
	checkProfile(t, "from 0 on", with(0, runs(waits(1, 1, 3, 10), 1, 0)), of(api.Cut{Free: 1}, api.Cut{At: 10, Free: 4}), flat(4))
	checkProfile(t, "from 5 on", with(9, runs(waits(1, 1, 3, 10), 2, 5)), flat(4), of(api.Cut{Free: 4}, api.Cut{At: 5, Free: 1}, api.Cut{At: 15, Free: 4}))
	checkProfile(t, "both nodes, all cores", with(9, runs(waits(1, 2, 4, 1), 3, 9)), of(api.Cut{Free: 4}, api.Cut{At: 9}, api.Cut{At: 10, Free: 4}), of(api.Cut{Free: 4}, api.Cut{At: 9}, api.Cut{At: 10, Free: 4}))
	checkProfile(t, "two on one node", with(9, runs(waits(1, 1, 1, 10), 1, 2), runs(waits(2, 1, 2, 20), 1, 4)), of(api.Cut{Free: 4}, api.Cut{At: 2, Free: 3}, api.Cut{At: 4, Free: 1}, api.Cut{At: 12, Free: 2}, api.Cut{At: 24, Free: 4}), flat(4))
	checkProfile(t, "two that begin and end at once", with(9, runs(waits(1, 1, 1, 10), 1, 2), runs(waits(2, 1, 2, 10), 1, 2)), of(api.Cut{Free: 4}, api.Cut{At: 2, Free: 1}, api.Cut{At: 12, Free: 4}), flat(4))
	last := runs(sent(waits(1, 1, 4, maxLimit), maxTime), 1, maxTime)
	checkProfile(t, "at MaxTime", with(maxTime, last), of(api.Cut{Free: 4}, api.Cut{At: maxTime}, api.Cut{At: maxTime + maxLimit, Free: 4}), flat(4))
	for _, state := range of(api.Completed, api.Failed, api.Timeout, api.Cancelled, api.NodeFail) {
		checkProfile(t, "over", with(9, over(waits(1, 1, 3, 10), state, 1, 5, 8)), flat(4), flat(4))
	}
	s := rich()
	want := [][]api.Cut{{{Free: 4}, {At: 45, Free: 2}, {At: 55, Free: 4}}, {{Free: 4}, {At: 50, Free: 3}, {At: 51, Free: 4}}}
	checkProfile(t, "rich", s, want...)
	s.Promises, s.Resvs = nil, nil
	checkProfile(t, "without promises and reservations", s, want...)
	s.Nodes[0].Up, s.Nodes[1].Up = false, false
	checkProfile(t, "nodes that are down", s, want...)
}

// P22.1: the profile of any right state.
func TestProfileOfAny(t *testing.T) {
	d := dice(3)
	cuts := 0
	for range 10000 {
		s := d.state()
		want := profileOf(s)
		if p, e := fifo.Profile(s); e != api.OK || !sameProfile(p, want) {
			t.Fatalf("%v: %v, %d, not %v", s, p, e, want)
		}
		for _, l := range want {
			cuts += len(l) - 1
		}
	}
	if cuts < 10000 {
		t.Errorf("the test is wrong: %d cuts", cuts)
	}
}

// checkAsk asks for a job's ask, of which it is told the nodes and the blocks.
func checkAsk(t *testing.T, what string, s api.State, j api.Job, nodes api.Set, blocks ...api.Block) {
	t.Helper()
	want := api.Ask{Count: j.Spec.Nodes, Cores: j.Spec.Cores, Limit: j.Spec.Limit, From: s.Now, Nodes: nodes, Blocks: blocks}
	for range 2 {
		if a := fifo.Ask(s, j); !sameAsk(a, want) {
			t.Errorf("%s: %v, not %v", what, a, want)
		}
	}
}

// P22.1: an ask: a job's nodes, cores and limit, from now on, on the nodes of its partition that are up, out of the reservations that do not admit its account.
func TestAsk(t *testing.T) {
	s := rich()
	r, x := api.Block{Nodes: 2, From: 60, To: 70}, api.Block{Nodes: 1, From: 90, To: 99}
	j := waits(20, 2, 3, 40)
	checkAsk(t, "of phys", s, j, 3, x)
	checkAsk(t, "of lab, below phys", s, by("lab", j), 3, x)
	checkAsk(t, "of bio", s, by("bio", j), 3, r)
	checkAsk(t, "of all, above both", s, by("all", j), 3, r, x)
	checkAsk(t, "of nobody", s, by("x", j), 3, r, x)
	checkAsk(t, "of one without a name", s, by("", j), 3, r, x)
	checkAsk(t, "of big", s, in("big", j), 2, x)
	for _, part := range of("", "x", "mai", "main ", "normal", "phys") {
		checkAsk(t, "of no partition: "+part, s, in(part, j), 0, x)
	}
	for now, up := range []api.Set{0, 1, 2, 3} {
		s := rich()
		s.Now = int64(now)
		s.Nodes[0].Up, s.Nodes[1].Up = has(up, 0), has(up, 1)
		checkAsk(t, "those that are up", s, j, up, x)
		checkAsk(t, "those of big that are up", s, in("big", j), up&2, x)
	}
	for _, state := range of[api.JobState](0, 1, 2, 3, 4, 5, 6, 7, 8, 9) {
		j.State = state
		checkAsk(t, "in any state", s, j, 3, x)
	}
	for _, at := range of[int64](0, 5, maxTime) {
		j.Submit, j.Start, j.End, j.On, j.Id, j.Spec.Deps = at, at, at, 7, int(at), of(bad(77))
		checkAsk(t, "with other things", s, j, 3, x)
	}
	s.Resvs = nil
	checkAsk(t, "no reservations", s, j, 3)
	checkAsk(t, "an empty state", empty(0), j, 3)
	checkAsk(t, "nothing", api.State{}, j, 0)
	checkAsk(t, "nothing of nothing", api.State{}, api.Job{}, 0)
}

// P22.1: an ask of what is not right: nobody refuses it.
func TestAskOfWhatIsNotRight(t *testing.T) {
	s := rich()
	j := waits(20, -7, math.MaxInt, math.MinInt64)
	x := api.Block{Nodes: 1, From: 90, To: 99}
	for _, now := range of[int64](math.MinInt64, -1, maxTime+1, math.MaxInt64) {
		s.Now = now
		checkAsk(t, "no time", s, j, 3, x)
	}
	s.Config.Policy, s.Next, s.Jobs = 0, -1, nil
	checkAsk(t, "no policy, no jobs", s, j, 3, x)
	s.Config.Parts = append(s.Config.Parts, api.Part{Name: "main", Nodes: 1})
	checkAsk(t, "two partitions of one name", s, j, 3, x)
	s.Config.Parts[0].Nodes = math.MaxUint32
	checkAsk(t, "more nodes than there are", s, j, 3, x)
	s.Nodes = upNodes(make([]int, 40))
	s.Nodes[31].Up, s.Nodes[3].Up = false, false
	checkAsk(t, "more nodes than a set has", s, j, math.MaxUint32&^(1<<31|1<<3), x)
	s.Nodes = nil
	checkAsk(t, "no nodes", s, j, 0, x)
	s.Resvs[0], s.Resvs[1] = s.Resvs[1], held("", 0, 9, -9, "lab")
	checkAsk(t, "reservations that may not be", s, by("phys", j), 0, x, api.Block{From: 9, To: -9})
}

// P22.1: an ask of any.
func TestAskOfAny(t *testing.T) {
	d := dice(4)
	blocks, less := 0, 0
	for range 20000 {
		s := d.state()
		j := d.job(s, s.Next)
		if d.below(10) == 0 {
			d.bendJob(&s, &j)
		}
		want := askOf(s, j)
		if a := fifo.Ask(s, j); !sameAsk(a, want) {
			t.Fatalf("%v, %v: %v, not %v", s, j, a, want)
		}
		blocks += len(want.Blocks)
		if countOf(want.Nodes) < len(s.Nodes) {
			less++
		}
	}
	if blocks < 6000 || less < 8000 {
		t.Errorf("the test is wrong: %d blocks, %d with fewer nodes", blocks, less)
	}
}

// checkMay asks whether a job may start, which it is told.
func checkMay(t *testing.T, what string, s api.State, j api.Job, want bool) {
	t.Helper()
	for range 2 {
		if may := fifo.May(s, j); may != want {
			t.Errorf("%s: %v", what, may)
		}
	}
}

// P22.1: a job may start if it is pending; in no other state.
func TestMayInEachState(t *testing.T) {
	for state := range 256 {
		j := waits(20, 1, 1, 1)
		j.State = api.JobState(state)
		checkMay(t, "in a state", rich(), j, j.State == api.Pending)
	}
}

// P22.1: a job may start if what it waits for holds.
func TestMayWithDependencies(t *testing.T) {
	s := rich()
	hold := map[api.Dep]bool{anyEnd(1): true, good(1): true, anyEnd(2): true, bad(2): true, anyEnd(5): true, bad(5): true}
	var all []api.Dep
	for id := range 14 {
		for kind := range 5 {
			all = append(all, api.Dep{Kind: api.DepKind(kind), Id: id})
		}
	}
	for _, a := range all {
		checkMay(t, "waits for one", s, waits(20, 1, 1, 1, a), hold[a])
		for _, b := range all {
			checkMay(t, "waits for two", s, waits(20, 1, 1, 1, a, b), hold[a] && hold[b])
		}
	}
	checkMay(t, "waits for nothing", s, waits(20, 1, 1, 1), true)
	checkMay(t, "waits for five, which is not asked", s, waits(20, 1, 1, 1, good(1), bad(2), anyEnd(1), anyEnd(2), bad(5)), true)
	checkMay(t, "waits for itself", s, waits(6, 1, 1, 1, anyEnd(6)), false)
}

// P22.1: a job may start if the limits of its account, of all above it, and of its quality hold with it, each alone.
func TestMayWithLimits(t *testing.T) {
	// In rich 2 cores run for phys, and 1 for lab below it, all of them normal.
	for what, limited := range map[string]struct {
		limit func(s *api.State, n int)
		used  int
		job   api.Job
	}{
		"its account's":             {func(s *api.State, n int) { s.Config.Accounts[1].Limit = n }, 3, waits(20, 2, 2, 1)},
		"its parent's":              {func(s *api.State, n int) { s.Config.Accounts[0].Limit = n }, 3, waits(20, 2, 2, 1)},
		"its parent's, of others":   {func(s *api.State, n int) { s.Config.Accounts[0].Limit = n }, 3, by("bio", waits(20, 4, 1, 1))},
		"its own, below":            {func(s *api.State, n int) { s.Config.Accounts[3].Limit = n }, 1, by("lab", waits(20, 1, 4, 1))},
		"above, of one below":       {func(s *api.State, n int) { s.Config.Accounts[1].Limit = n }, 3, by("lab", waits(20, 2, 2, 1))},
		"its own, of which none is": {func(s *api.State, n int) { s.Config.Accounts[2].Limit = n }, 0, by("bio", waits(20, 2, 2, 1))},
		"its quality's cores":       {func(s *api.State, n int) { s.Config.Qos[0].Limit = n }, 3, waits(20, 2, 2, 1)},
		"another quality's cores":   {func(s *api.State, n int) { s.Config.Qos[1].Limit = n }, 0, at("high", waits(20, 2, 2, 1))},
	} {
		s := rich()
		for n := range 20 {
			limited.limit(&s, n)
			checkMay(t, what, s, limited.job, n >= limited.used+4)
		}
		limited.limit(&s, -1)
		checkMay(t, what+" that is none", s, limited.job, true)
	}
	s := rich()
	for n := range 5 {
		s.Config.Qos[0].Jobs, s.Config.Qos[1].Jobs = n, -1
		checkMay(t, "its quality's jobs", s, waits(20, 1, 1, 1), n > 2)
		s.Config.Qos[0].Jobs, s.Config.Qos[1].Jobs = -1, n
		checkMay(t, "another quality's jobs", s, at("high", waits(20, 1, 1, 1)), n > 0)
	}
	s = rich()
	s.Config.Accounts[2].Limit, s.Config.Accounts[3].Limit, s.Config.Qos[1].Limit, s.Config.Qos[1].Jobs = 0, 0, 0, 0
	checkMay(t, "limits of others", s, waits(20, 2, 4, 1), true)
}

// P22.1: whether a job may start asks nothing else: neither room, nor nodes that are up, nor reservations, nor whether the job is there, nor whether the state is right.
func TestMayAsksNothingElse(t *testing.T) {
	s := rich()
	j := waits(20, 2, 4, 1)
	s.Nodes[0].Up, s.Nodes[1].Up = false, false
	s.Resvs = of(held("r", 3, 0, maxTime, "bio"))
	checkMay(t, "no room", s, j, true)
	checkMay(t, "a job of no partition", s, in("x", j), true)
	checkMay(t, "a job that is there, in another state there", s, waits(3, 1, 1, 1), true)
	checkMay(t, "no account", s, by("x", j), false)
	checkMay(t, "no quality", s, at("x", j), false)
	s.Now, s.Next, s.Nodes, s.Config.Parts, s.Config.Cores, s.Config.Policy = -1, 0, nil, nil, nil, 0
	checkMay(t, "much is not right", s, j, true)
	slices.Reverse(s.Jobs)
	checkMay(t, "jobs do not rise", s, waits(20, 2, 4, 1, good(1)), true)
	s.Config.Qos[1].Name = "normal"
	checkMay(t, "qualities that are not right", s, j, false)
	s = rich()
	s.Config.Accounts[3].Parent = "x"
	checkMay(t, "accounts that are not right", s, j, false)
	checkMay(t, "nothing", api.State{}, j, false)
	checkMay(t, "nothing of nothing", api.State{}, api.Job{}, false)
}

// P22.1: whether any may start.
func TestMayOfAny(t *testing.T) {
	d := dice(5)
	told := map[bool]int{}
	for range 20000 {
		s := d.state()
		for _, j := range s.Jobs {
			want := mayOf(s, j)
			if may := fifo.May(s, j); may != want {
				t.Fatalf("%v, %v: %v", s, j, may)
			}
			told[want]++
		}
	}
	if told[true] < 10000 || told[false] < 10000 {
		t.Errorf("the test is wrong: %v", told)
	}
}
