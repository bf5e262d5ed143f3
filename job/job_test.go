package job_test

import (
	"math"
	"reflect"
	"strconv"
	"testing"

	"muster/api"
	"muster/job"
)

// The tests' own numbers, so that they don't lean on what they test.
const (
	maxNodes = 32
	maxCores = 64
	maxLimit = int64(1048576)       // 2^20
	maxId    = 1073741824           // 2^30
	maxTime  = int64(1099511627776) // 2^40
	every    = api.Set(0xFFFFFFFF)
)

// of is the list of these.
func of[T any](l ...T) []T { return l }

// kind is how a right job may be: its state, and whether it has begun, and ended.
type kind struct {
	name         string
	state        api.JobState
	begins, ends bool
}

// kinds are all of them: of the eight states Cancelled comes twice.
func kinds() []kind {
	return []kind{
		{"pending", 1, false, false},
		{"running", 2, true, false},
		{"completed", 3, true, true},
		{"failed", 4, true, true},
		{"timeout", 5, true, true},
		{"cancelled with nodes", 6, true, true},
		{"cancelled without nodes", 6, false, true},
		{"node fail", 7, true, true},
		{"never", 8, false, true},
	}
}

// spec asks for 2 nodes, 3 cores of each, for 10 ticks.
func spec() api.Spec {
	return api.Spec{User: "ann", Account: "phys", Qos: "normal", Part: "main", Nodes: 2, Cores: 3, Limit: 10, Deps: []api.Dep{{Kind: api.DepOk, Id: 1}, {Kind: api.DepAny, Id: 2}}}
}

// at is a job of that kind, with those of the times that it has; it is right if these are.
func (k kind) at(submit, start, end int64) api.Job {
	j := api.Job{Id: 7, Of: 5, Index: 3, Spec: spec(), State: k.state, Submit: submit}
	if k.begins {
		j.Start, j.On = start, 3
	}
	if k.ends {
		j.End = end
	}
	if k.state == 4 {
		j.Exit = 9
	}
	return j
}

// job is a right one of that kind, submitted at 5, begun at 7, ended at 9.
func (k kind) job() api.Job { return k.at(5, 7, 9) }

// kindOf is the kind of that name.
func kindOf(name string) kind {
	for _, k := range kinds() {
		if k.name == name {
			return k
		}
	}
	panic("the test is wrong: no kind " + name)
}

// countOf is how many nodes s has, by halving.
func countOf(s api.Set) int {
	n := 0
	for ; s > 0; s /= 2 {
		n += int(s % 2)
	}
	return n
}

// same tells whether two jobs have the same values; no dependencies and an empty list of them are the same.
func same(a, b api.Job) bool {
	if len(a.Spec.Deps) == 0 && len(b.Spec.Deps) == 0 {
		a.Spec.Deps, b.Spec.Deps = nil, nil
	}
	return reflect.DeepEqual(a, b)
}

// isZero tells whether j is the zero job.
func isZero(j api.Job) bool { return reflect.DeepEqual(j, api.Job{}) }

// isOver is Over in plain words.
func isOver(s api.JobState) bool { return s >= 3 && s <= 8 }

// isRight asks each word of the chapter for itself.
func isRight(j api.Job) bool {
	right := j.Id >= 1 && j.Id <= maxId && j.Of >= 0 && j.Of <= j.Id && j.Index >= 0
	right = right && j.Spec.Nodes >= 1 && j.Spec.Nodes <= maxNodes && j.Spec.Cores >= 1 && j.Spec.Cores <= maxCores && j.Spec.Limit >= 1 && j.Spec.Limit <= maxLimit
	right = right && j.Submit >= 0 && j.Submit <= maxTime
	switch begun := j.Start >= j.Submit && j.Start <= maxTime && countOf(j.On) == j.Spec.Nodes; j.State {
	case 1:
		return right && j.Start == 0 && j.End == 0 && j.On == 0 && j.Exit == 0
	case 2:
		return right && begun && j.End == 0 && j.Exit == 0
	case 3, 5, 7:
		return right && begun && j.End >= j.Start && j.End <= maxTime && j.Exit == 0
	case 4:
		return right && begun && j.End >= j.Start && j.End <= maxTime && j.Exit != 0
	case 6:
		if j.On != 0 {
			return right && begun && j.End >= j.Start && j.End <= maxTime && j.Exit == 0
		}
		return right && j.Start == 0 && j.Exit == 0 && j.End >= j.Submit && j.End <= maxTime
	case 8:
		return right && j.On == 0 && j.Start == 0 && j.Exit == 0 && j.End >= j.Submit && j.End <= maxTime
	}
	return false
}

// checkRight asks Right, of which it is told what it answers.
func checkRight(t *testing.T, what string, j api.Job, want bool) {
	t.Helper()
	for range 2 {
		if job.Right(j) != want {
			t.Errorf("%s: Right(%v) = %v", what, j, !want)
		}
	}
	if isRight(j) != want {
		t.Errorf("%s: the test is wrong: %v", what, j)
	}
}

// P18.1 to P18.4: the chapter's examples.
func TestChapters(t *testing.T) {
	j := job.Make(1, api.Spec{Nodes: 2, Cores: 3, Limit: 10}, 5)
	if j.State != api.Pending || !job.Right(j) {
		t.Errorf("Make: %v", j)
	}
	r, e := job.Begin(j, 3, 7)
	if e != api.OK || r.State != api.Running || job.End(r) != 17 {
		t.Errorf("Begin: %v, %d", r, e)
	}
	if _, e := job.Begin(j, 1, 7); e != api.ErrArg {
		t.Errorf("Begin on node 0 alone: %d", e)
	}
	c, e := job.Finish(r, api.Completed, 0, 9)
	if e != api.OK || c.End != 9 || job.End(c) != 9 {
		t.Errorf("Finish: %v, %d", c, e)
	}
	if _, e := job.Finish(c, api.Completed, 0, 9); e != api.ErrState {
		t.Errorf("Finish once more: %d", e)
	}
	if f, e := job.Finish(r, api.Failed, 0, 9); e != api.OK || f.Exit != 1 {
		t.Errorf("Finish with exit 0: %v, %d", f, e)
	}
	if _, e := job.Finish(j, api.Completed, 0, 9); e != api.ErrState {
		t.Errorf("Finish of a pending one, Completed: %d", e)
	}
	if c, e := job.Finish(j, api.Cancelled, 0, 9); e != api.OK || c.State != api.Cancelled {
		t.Errorf("Finish of a pending one, Cancelled: %v, %d", c, e)
	}
}

// P18.1: Make tells just what it is handed, and all else 0, right or not.
func TestMake(t *testing.T) {
	specs := map[string]api.Spec{
		"ordinary":             spec(),
		"none":                 {},
		"without dependencies": {User: "bob", Account: "a", Qos: "b", Part: "c", Nodes: 1, Cores: 1, Limit: 1},
		"what may not be":      {Nodes: -1, Cores: math.MinInt, Limit: math.MaxInt64, Deps: make([]api.Dep, 99)},
		"at the top":           {Nodes: maxNodes, Cores: maxCores, Limit: maxLimit, Deps: []api.Dep{}},
	}
	for name, s := range specs {
		for _, id := range of(math.MinInt, -1, 0, 1, 7, maxId, maxId+1, math.MaxInt) {
			for _, now := range of(math.MinInt64, -1, 0, 1, 5, maxTime, maxTime+1, math.MaxInt64) {
				want := api.Job{Id: id, Spec: s, State: 1, Submit: now}
				j := job.Make(id, s, now)
				if !same(j, want) || !same(job.Make(id, s, now), want) {
					t.Errorf("%s: Make(%d, %v, %d) = %v", name, id, s, now, j)
				}
				if may := id >= 1 && id <= maxId && now >= 0 && now <= maxTime && s.Nodes > 0; job.Right(j) != may {
					t.Errorf("%s: Make(%d, %v, %d) is right: %v", name, id, s, now, !may)
				}
			}
		}
	}
}

// P18.1: Over of each state, and of what is none.
func TestOver(t *testing.T) {
	for s, want := range map[api.JobState]bool{api.Pending: false, api.Running: false, api.Completed: true, api.Failed: true, api.Timeout: true, api.Cancelled: true, api.NodeFail: true, api.Never: true} {
		if job.Over(s) != want {
			t.Errorf("Over(%d) = %v", s, !want)
		}
	}
	for s := range 256 {
		if s := api.JobState(s); job.Over(s) != isOver(s) {
			t.Errorf("Over(%d) = %v", s, !isOver(s))
		}
	}
}

// P18.1: a right job of each kind.
func TestRight(t *testing.T) {
	for _, k := range kinds() {
		checkRight(t, k.name, k.job(), true)
	}
	checkRight(t, "the zero job", api.Job{}, false)
}

// commonEdges are changes of what all states ask the same of, and whether a right job is right behind each.
func commonEdges() map[string]struct {
	change func(j *api.Job)
	right  bool
} {
	type edge = struct {
		change func(j *api.Job)
		right  bool
	}
	all := map[string]edge{}
	number := func(name string, put func(j *api.Job, n int), right map[int]bool) {
		for n, is := range right {
			all[name+" "+strconv.Itoa(n)] = edge{func(j *api.Job) { put(j, n) }, is}
		}
	}
	number("Id", func(j *api.Job, n int) { j.Id, j.Of = n, 0 }, map[int]bool{math.MinInt: false, -1: false, 0: false, 1: true, 2: true, maxId - 1: true, maxId: true, maxId + 1: false, 1<<32 + 1: false, math.MaxInt: false})
	number("Id and Of", func(j *api.Job, n int) { j.Id, j.Of = n, n }, map[int]bool{-1: false, 0: false, 1: true, maxId: true, maxId + 1: false})
	number("Of", func(j *api.Job, n int) { j.Id, j.Of = 7, n }, map[int]bool{math.MinInt: false, -1: false, 0: true, 1: true, 6: true, 7: true, 8: false, 1 << 32: false, math.MaxInt: false})
	number("Of beside Id 1", func(j *api.Job, n int) { j.Id, j.Of = 1, n }, map[int]bool{-1: false, 0: true, 1: true, 2: false})
	number("Of beside MaxId", func(j *api.Job, n int) { j.Id, j.Of = maxId, n }, map[int]bool{-1: false, 0: true, maxId - 1: true, maxId: true, maxId + 1: false})
	number("Index", func(j *api.Job, n int) { j.Index = n }, map[int]bool{math.MinInt: false, -2: false, -1: false, 0: true, 1: true, 9999: true, 10000: true, math.MaxInt: true})
	number("Cores", func(j *api.Job, n int) { j.Spec.Cores = n }, map[int]bool{math.MinInt: false, -1: false, 0: false, 1: true, 2: true, maxCores - 1: true, maxCores: true, maxCores + 1: false, 1<<32 + 1: false, math.MaxInt: false})
	number("Limit", func(j *api.Job, n int) { j.Spec.Limit = int64(n) }, map[int]bool{math.MinInt: false, -1: false, 0: false, 1: true, 2: true, 1<<20 - 1: true, 1 << 20: true, 1<<20 + 1: false, 1<<32 + 1: false, math.MaxInt: false})
	number("Nodes, and as many on it", func(j *api.Job, n int) {
		j.Spec.Nodes = n
		if j.On != 0 {
			j.On = api.Set(uint64(1)<<max(0, min(n, maxNodes)) - 1)
		}
	}, map[int]bool{math.MinInt: false, -1: false, 0: false, 1: true, 2: true, 3: true, maxNodes - 1: true, maxNodes: true, maxNodes + 1: false, 2 * maxNodes: false, 1<<32 + 2: false, math.MaxInt: false})
	for name, s := range map[string]api.Spec{"no texts": {}, "long texts": {User: "annannannannannann", Account: "?", Qos: " ", Part: "\xff"}, "many dependencies": {Deps: make([]api.Dep, 99)}, "it waits for itself": {Deps: []api.Dep{{Kind: 9, Id: 7}, {Kind: 9, Id: 7}}}} {
		all[name] = edge{func(j *api.Job) { s.Nodes, s.Cores, s.Limit = 2, 3, 10; j.Spec = s }, true}
	}
	return all
}

// P18.1: what all states ask the same of, at each edge, in each state.
func TestRightAtCommonEdges(t *testing.T) {
	for name, edge := range commonEdges() {
		for _, k := range kinds() {
			j := k.job()
			edge.change(&j)
			checkRight(t, k.name+", "+name, j, edge.right)
		}
	}
}

// P18.1: Submit at each edge, in each state, with all that is behind it at the same time.
func TestRightAtSubmit(t *testing.T) {
	for submit, want := range map[int64]bool{math.MinInt64: false, -1: false, 0: true, 1: true, maxTime - 1: true, maxTime: true, maxTime + 1: false, math.MaxInt64: false} {
		for _, k := range kinds() {
			checkRight(t, k.name+", Submit "+strconv.FormatInt(submit, 10), k.at(submit, submit, submit), want)
		}
	}
	for _, k := range kinds() {
		checkRight(t, k.name+", Submit -1 alone", k.at(-1, 7, 9), false)
		checkRight(t, k.name+", Submit MaxTime and one more alone", k.at(maxTime+1, 7, 9), false)
		checkRight(t, k.name+", Submit behind all else", k.at(maxTime, 7, 9), !k.begins && !k.ends)
	}
}

// P18.1: a State that is none of the eight, whatever else the job has.
func TestRightOfNoState(t *testing.T) {
	for s := range 256 {
		for _, k := range kinds() {
			j := k.job()
			j.State = api.JobState(s)
			checkRight(t, k.name+" as "+strconv.Itoa(s), j, isRight(j))
			if s < 1 || s > 8 {
				checkRight(t, k.name+" as none: "+strconv.Itoa(s), j, false)
			}
		}
	}
}

// P18.1: each state with a Start, an End, nodes or an exit that it may not have, each by itself.
func TestRightWithWhatItMayNotHave(t *testing.T) {
	for _, k := range kinds() {
		if !k.begins {
			for _, start := range of(math.MinInt64, -1, 1, 5, 7, 9, maxTime, maxTime+1) {
				j := k.job()
				j.Start = start
				checkRight(t, k.name+" with a Start", j, false)
			}
			for _, on := range of[api.Set](1, 2, 3, 7, 1<<31, every) {
				j := k.job()
				j.On = on
				checkRight(t, k.name+" with nodes", j, false)
			}
		}
		if !k.ends {
			for _, end := range of(math.MinInt64, -1, 1, 5, 7, 9, 17, maxTime, maxTime+1) {
				j := k.job()
				j.End = end
				checkRight(t, k.name+" with an End", j, false)
			}
		}
		for _, exit := range of(math.MinInt, -1, 1, 9, 256, 1<<32, math.MaxInt) {
			j := k.job()
			j.Exit = exit
			checkRight(t, k.name+" with an exit", j, k.state == api.Failed)
		}
		j := k.job()
		j.Exit = 0
		checkRight(t, k.name+" with exit 0", j, k.state != api.Failed)
		if k.begins {
			j := k.job()
			j.On = 0
			j.Exit = 0
			checkRight(t, k.name+" without nodes", j, false)
		}
	}
}

// P18.1: a cancelled one with nodes and without: what each has, the other may not have; none else may be so.
func TestRightOfCancelled(t *testing.T) {
	with, without := kindOf("cancelled with nodes"), kindOf("cancelled without nodes")
	checkRight(t, "with nodes and a Start", with.at(5, 7, 9), true)
	checkRight(t, "with neither", without.at(5, 0, 9), true)
	j := with.at(5, 7, 9)
	j.Start = 0
	checkRight(t, "with nodes alone", j, false)
	j.Submit = 0
	checkRight(t, "with nodes, submitted and begun at 0", j, true)
	j = with.at(5, 7, 9)
	j.On = 0
	checkRight(t, "with a Start alone", j, false)
	j.Submit, j.Start = 0, 0
	checkRight(t, "without nodes, submitted at 0", j, true)
	for s := range api.JobState(9) {
		j := with.at(5, 7, 9)
		j.State, j.On, j.Start = s, 0, 0
		checkRight(t, "without nodes, as "+strconv.Itoa(int(s)), j, s == api.Cancelled || s == api.Never)
		j = with.at(5, 7, 9)
		j.State = s
		checkRight(t, "with nodes, as "+strconv.Itoa(int(s)), j, s == 3 || s == 5 || s == 6 || s == 7)
	}
}

// P18.1: on as many nodes as were asked for, one too few, one too many, and none.
func TestRightByCount(t *testing.T) {
	d := dice(1)
	for _, k := range kinds() {
		if !k.begins {
			continue
		}
		for asked := 1; asked <= maxNodes; asked++ {
			for count := range maxNodes + 1 {
				j := k.job()
				j.Spec.Nodes, j.On = asked, d.nodes(count)
				checkRight(t, k.name+", "+strconv.Itoa(asked)+" asked for, on "+strconv.Itoa(count), j, asked == count)
			}
		}
		for node := range maxNodes {
			j := k.job()
			j.Spec.Nodes, j.On = 1, 1<<node
			checkRight(t, k.name+" on node "+strconv.Itoa(node), j, true)
			j.Spec.Nodes, j.On = maxNodes-1, every-1<<node
			checkRight(t, k.name+" on all but node "+strconv.Itoa(node), j, true)
		}
	}
}

// P18.1: Start and End at each edge: one below what is ahead, at it, at MaxTime, and one more.
func TestRightByTimes(t *testing.T) {
	for _, k := range kinds() {
		if k.begins {
			late := k.at(5, maxTime, maxTime)
			checkRight(t, k.name+", Start one below Submit", k.at(5, 4, 9), false)
			checkRight(t, k.name+", Start at Submit", k.at(5, 5, 9), true)
			checkRight(t, k.name+", Start at MaxTime", late, true)
			checkRight(t, k.name+", Start one more", k.at(5, maxTime+1, maxTime+1), false)
			checkRight(t, k.name+", Start 0", k.at(5, 0, 9), false)
		}
		if k.begins && k.ends {
			checkRight(t, k.name+", End one below Start", k.at(5, 7, 6), false)
			checkRight(t, k.name+", End one below Start, at Submit", k.at(5, 6, 5), false)
			checkRight(t, k.name+", End at Start", k.at(5, 7, 7), true)
			checkRight(t, k.name+", Start one more than MaxTime alone", k.at(5, maxTime+1, maxTime), false)
		}
		if k.ends {
			checkRight(t, k.name+", End one below Submit", k.at(5, 5, 4), false)
			checkRight(t, k.name+", all at Submit", k.at(5, 5, 5), true)
			checkRight(t, k.name+", End at MaxTime", k.at(5, 7, maxTime), true)
			checkRight(t, k.name+", End one more", k.at(5, 7, maxTime+1), false)
			checkRight(t, k.name+", End behind its Limit", k.at(5, 7, 7+maxLimit), true)
			checkRight(t, k.name+", End 0", k.at(5, 7, 0), false)
			checkRight(t, k.name+", all at 0", k.at(0, 0, 0), true)
		}
	}
}

// edgeTimes are times at the edges, around those that the tests' jobs have, and beyond all time.
func edgeTimes() []int64 {
	return []int64{math.MinInt64, -maxTime, -1, 0, 1, 4, 5, 6, 7, 8, 9, 10, 1 << 32, maxTime - 1, maxTime, maxTime + 1, math.MaxInt64}
}

// P18.1: each state with each three times, and with nodes or without.
func TestRightOfEachThreeTimes(t *testing.T) {
	right := 0
	for _, k := range kinds() {
		j := k.job()
		for _, j.Submit = range edgeTimes() {
			for _, j.Start = range edgeTimes() {
				for _, j.End = range edgeTimes() {
					for _, j.On = range of[api.Set](0, 1, 3, 6, 7) {
						if job.Right(j) != isRight(j) {
							t.Fatalf("%s: Right(%v) = %v", k.name, j, !isRight(j))
						}
						if isRight(j) {
							right++
						}
					}
				}
			}
		}
	}
	if right < 1000 {
		t.Errorf("the test is wrong: %d are right", right)
	}
}

// P18.1: any jobs, right ones and such of which one thing or more is bent.
func TestRightOfAny(t *testing.T) {
	d := dice(2)
	right, wrong := 0, 0
	for range 200000 {
		k := one(&d, kinds())
		j := d.job(k)
		if !job.Right(j) || !isRight(j) {
			t.Fatalf("%s: Right(%v) = false", k.name, j)
		}
		for range 1 + d.below(3) {
			d.bend(&j)
		}
		if job.Right(j) != isRight(j) {
			t.Fatalf("Right(%v) = %v", j, !isRight(j))
		}
		if isRight(j) {
			right++
		} else {
			wrong++
		}
	}
	if right < 20000 || wrong < 20000 {
		t.Errorf("the test is wrong: %d are right, %d are not", right, wrong)
	}
}
