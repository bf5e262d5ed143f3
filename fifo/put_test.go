package fifo_test

import (
	"math"
	"testing"

	"muster/api"
	"muster/fifo"
)

// P22.2: a start that is put: the job runs there from now on, its promise is gone, and all else is as it was.
func TestPut(t *testing.T) {
	s := rich()
	next, e := fifo.Put(s, api.Start{Id: 8, On: 2})
	want := rich()
	want.Jobs[theOther].State, want.Jobs[theOther].Start, want.Jobs[theOther].On = api.Running, 50, 2
	want.Promises = want.Promises[:1]
	if e != api.OK || !same(next, want) {
		t.Errorf("%v, %d, not %v", next, e, want)
	}
	again, e := fifo.Put(next, api.Start{Id: 8, On: 2})
	if e != api.ErrState || !same(again, api.State{}) {
		t.Errorf("%v, %d", again, e)
	}
	s = rich()
	s.Jobs[theRunning].Spec.Cores = 1
	next, e = fifo.Put(s, api.Start{Id: 6, On: 3})
	want = anew(s)
	want.Jobs[thePending].State, want.Jobs[thePending].Start, want.Jobs[thePending].On = api.Running, 50, 3
	want.Promises = want.Promises[1:]
	if e != api.OK || !same(next, want) {
		t.Errorf("%v, %d, not %v", next, e, want)
	}
}

// P22.2: all of the state is in the one that is told, also what a start does not ask.
func TestPutKeepsAll(t *testing.T) {
	for name, change := range rightChanges() {
		s := rich()
		change(&s)
		for id := range 14 {
			for on := range api.Set(8) {
				want, err := putOf(s, api.Start{Id: id, On: on})
				checkPut(t, name, s, api.Start{Id: id, On: on}, err)
				if err == api.OK && len(want.Jobs) != len(s.Jobs) {
					t.Errorf("%s: the test is wrong", name)
				}
			}
		}
	}
}

// P22.2: ErrName of a job that is not there.
func TestPutOfNoJob(t *testing.T) {
	for _, id := range of(math.MinInt, -1, 0, 4, 7, 10, 11, 12, 13, maxId, maxId+1, math.MaxInt) {
		for _, on := range of[api.Set](0, 1, 3, 4, math.MaxUint32) {
			checkPut(t, "no job", rich(), api.Start{Id: id, On: on}, api.ErrName)
			checkPut(t, "no jobs", empty(50), api.Start{Id: id, On: on}, api.ErrName)
		}
	}
	checkPut(t, "nothing", api.State{}, api.Start{Id: 1, On: 1}, api.ErrArg)
}

// P22.2: ErrState of a job that is not pending; ErrArg on too many nodes or too few, ahead of that; both ahead of ErrOver.
func TestPutOfWhatMayNotBegin(t *testing.T) {
	s := with(9, runs(waits(1, 2, 4, 10), 3, 0))
	for i, state := range of(api.Completed, api.Failed, api.Timeout, api.Cancelled, api.NodeFail) {
		s.Jobs = append(s.Jobs, over(waits(2+i, 2, 4, 10), state, 3, 5, 8))
	}
	s.Jobs = append(s.Jobs, left(waits(7, 2, 4, 10), api.Cancelled, 8), left(waits(8, 2, 4, 10), api.Never, 8), waits(9, 2, 4, 10))
	s.Next = 10
	checkRight(t, "each state", s, true)
	for id := 1; id <= 9; id++ {
		for on := range api.Set(64) {
			want := api.ErrOver
			switch {
			case countOf(on) != 2:
				want = api.ErrArg
			case id < 9:
				want = api.ErrState
			}
			checkPut(t, "each state", s, api.Start{Id: id, On: on}, want)
		}
	}
}

// P22.2: too few and too many nodes, for each count that is asked for.
func TestPutOnEachCount(t *testing.T) {
	cores := make([]int, maxNodes)
	for i := range cores {
		cores[i] = 1
	}
	for asked := 1; asked <= maxNodes; asked++ {
		s := with(3, waits(5, asked, 1, 10))
		s.Config.Cores, s.Nodes = cores, upNodes(cores)
		s.Config.Parts[0].Nodes = math.MaxUint32
		for count := range maxNodes + 1 {
			for _, on := range of(api.Set(1<<count-1), api.Set(math.MaxUint32<<(maxNodes-count))) {
				want := api.ErrArg
				if count == asked {
					want = api.OK
				}
				checkPut(t, "counts", s, api.Start{Id: 5, On: on}, want)
			}
		}
	}
}

// P22.2: ErrOver where cores are taken, by one core or by all, on one node or on one of two, and on nodes that there are not.
func TestPutWhereItIsTaken(t *testing.T) {
	for taken := range 5 {
		for cores := 1; cores <= 4; cores++ {
			s := with(9, waits(1, 1, cores, 10), waits(2, 2, cores, 10))
			if taken > 0 {
				s = with(9, waits(1, 1, cores, 10), waits(2, 2, cores, 10), runs(waits(3, 1, taken, 1), 2, 9))
			}
			want := api.OK
			if taken+cores > 4 {
				want = api.ErrOver
			}
			checkPut(t, "another node", s, api.Start{Id: 1, On: 1}, api.OK)
			checkPut(t, "that node", s, api.Start{Id: 1, On: 2}, want)
			checkPut(t, "that node and another one", s, api.Start{Id: 2, On: 3}, want)
			checkPut(t, "no node", s, api.Start{Id: 1, On: 4}, api.ErrOver)
			checkPut(t, "the last node of all", s, api.Start{Id: 1, On: 1 << 31}, api.ErrOver)
			checkPut(t, "one node that there is not", s, api.Start{Id: 2, On: 5}, api.ErrOver)
			checkPut(t, "two nodes that there are not", s, api.Start{Id: 2, On: 12}, api.ErrOver)
		}
	}
	s := with(9, waits(1, 1, 1, 10), over(waits(2, 2, 4, 10), api.Failed, 3, 8, 9))
	checkPut(t, "what is over takes nothing", s, api.Start{Id: 1, On: 1}, api.OK)
	s = with(9, waits(1, 1, 4, 10), waits(2, 2, 4, 10))
	s.Promises = of(api.Promise{Id: 2, Start: 9, On: 3})
	checkPut(t, "what is promised to others takes nothing", s, api.Start{Id: 1, On: 1}, api.OK)
}

// P22.2: what a start is not asked: whether the job may start, nodes that are up and its partition's, reservations, its own promise.
func TestPutAsksNothingElse(t *testing.T) {
	x := api.Start{Id: 7, On: 1}
	for what, change := range map[string]change{
		"a node that is down":             func(s *api.State) { s.Nodes[0].Up = false },
		"a node of another partition":     func(s *api.State) { s.Jobs[0].Spec.Part = "big" },
		"a reservation":                   func(s *api.State) { s.Resvs = of(held("r", 3, 0, 99, "bio")) },
		"it waits still":                  func(s *api.State) { s.Jobs[0].Spec.Deps = of(good(3)) },
		"its account's limit":             func(s *api.State) { s.Config.Accounts[1].Limit = 0 },
		"its quality's limits":            func(s *api.State) { s.Config.Qos[0].Limit, s.Config.Qos[0].Jobs = 0, 0 },
		"another is ahead":                func(s *api.State) { s.Jobs, s.Next = append(s.Jobs, at("high", waits(8, 2, 4, 1))), 9 },
		"it was promised other nodes":     func(s *api.State) { s.Promises = of(api.Promise{Id: 7, Start: 50, On: 2}) },
		"another time":                    func(s *api.State) { s.Promises = of(api.Promise{Id: 7, Start: 80, On: 1}) },
		"policy Conservative":             func(s *api.State) { s.Config.Policy = api.Conservative },
		"it was submitted now":            func(s *api.State) { s.Jobs[0].Submit = 50 },
		"it ends above MaxTime":           func(s *api.State) { s.Now, s.Jobs[0].Spec.Limit = maxTime, maxLimit },
		"it is one of an array":           func(s *api.State) { s.Jobs[0].Of, s.Jobs[0].Index = 6, 3 },
		"it has the greatest id that any": func(s *api.State) { s.Next = maxId + 1 },
	} {
		s := with(50, waits(7, 1, 4, 10))
		change(&s)
		checkPut(t, what, s, x, api.OK)
	}
}

// P22.2: a promise that is gone among those of others, in each place; of a job that has none, all stay.
func TestPutBesidePromises(t *testing.T) {
	for mask := range 32 {
		s := with(50)
		for i := range 5 {
			s.Jobs = append(s.Jobs, waits(3*i+2, 1, 1, 10))
			if mask>>i&1 == 1 {
				s.Promises = append(s.Promises, api.Promise{Id: 3*i + 2, Start: int64(60 - i), On: api.Set(1 + i%2)})
			}
		}
		s.Next = 20
		for i := range 5 {
			next, e := fifo.Put(s, api.Start{Id: 3*i + 2, On: 1})
			var want []api.Promise
			for _, p := range s.Promises {
				if p.Id != 3*i+2 {
					want = append(want, p)
				}
			}
			if e != api.OK || len(next.Promises) != len(want) {
				t.Fatalf("%d, %d: %v, %d", mask, i, next.Promises, e)
			}
			checkPut(t, "promises", s, api.Start{Id: 3*i + 2, On: 1}, api.OK)
		}
	}
}

// P22.2: any starts in any states.
func TestPutOfAny(t *testing.T) {
	d := dice(6)
	told := map[api.Errno]int{}
	for range 20000 {
		s := d.state()
		if d.below(6) == 0 {
			d.bend(&s)
		}
		x := api.Start{Id: d.below(s.Next&255 + 1), On: d.nodes(1+d.below(3), max(len(s.Nodes), 1+d.below(maxNodes)))}
		if len(s.Jobs) > 0 && d.below(8) > 0 {
			j := one(&d, s.Jobs)
			x = api.Start{Id: j.Id, On: d.nodes(j.Spec.Nodes&31, max(1, len(s.Nodes)))}
		}
		want, err := putOf(s, x)
		if next, e := fifo.Put(s, x); e != err || !same(next, want) {
			t.Fatalf("%v, %v: %v, %d, not %v, %d", s, x, next, e, want, err)
		}
		told[err]++
		if err == api.OK && (!isRight(want) || !fifo.Right(want)) {
			t.Fatalf("%v, %v: not right: %v", s, x, want)
		}
	}
	for err, least := range map[api.Errno]int{api.OK: 3000, api.ErrArg: 1500, api.ErrName: 2000, api.ErrState: 3000, api.ErrOver: 500} {
		if told[err] < least {
			t.Errorf("the test is wrong: %d is told %d times", err, told[err])
		}
	}
}
