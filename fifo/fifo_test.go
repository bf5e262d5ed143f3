package fifo_test

import (
	"reflect"
	"slices"
	"testing"

	"muster/api"
	"muster/fifo"
)

// The tests' own numbers, so that they don't lean on what they test.
const (
	maxNodes = 32
	maxCores = 64
	maxJobs  = 96
	maxResvs = 16
	maxLimit = 1048576       // 2^20
	maxTime  = 1099511627776 // 2^40
	maxId    = 1073741824    // 2^30
)

// of is the list of these.
func of[T any](l ...T) []T { return l }

// config is a right one: phys has lab below it, and big is for phys alone.
func config() api.Config {
	return api.Config{
		Cores:    of(4, 4),
		Parts:    of(api.Part{Name: "main", Nodes: 3, MaxLimit: maxLimit}, api.Part{Name: "big", Nodes: 2, Prio: 1, MaxLimit: 100, Accounts: of("phys")}),
		Accounts: of(api.Account{Name: "all", Limit: -1}, api.Account{Name: "phys", Parent: "all", Limit: -1}, api.Account{Name: "bio", Parent: "all", Limit: -1}, api.Account{Name: "lab", Parent: "phys", Limit: -1}),
		Qos:      of(api.Qos{Name: "normal", Limit: -1, Jobs: -1}, api.Qos{Name: "high", Prio: 5, Limit: -1, Jobs: -1}),
		Policy:   api.Fifo,
	}
}

// upNodes are nodes of these cores, all up.
func upNodes(cores []int) []api.Node {
	var l []api.Node
	for _, c := range cores {
		l = append(l, api.Node{Cores: c, Up: true, Epoch: 1})
	}
	return l
}

// empty is a state in which nothing is.
func empty(now int64) api.State {
	return api.State{Config: config(), Now: now, Nodes: upNodes(of(4, 4)), Next: 1}
}

// with is that empty state at now with these jobs, whose ids rise.
func with(now int64, jobs ...api.Job) api.State {
	s := empty(now)
	s.Jobs = jobs
	for _, j := range jobs {
		s.Next = j.Id + 1
	}
	return s
}

// waits is a job of phys that is pending, and was submitted at 0.
func waits(id, nodes, cores int, limit int64, deps ...api.Dep) api.Job {
	return api.Job{Id: id, State: api.Pending, Spec: api.Spec{User: "ann", Account: "phys", Qos: "normal", Part: "main", Nodes: nodes, Cores: cores, Limit: limit, Deps: deps}}
}

// runs is j, which runs on these nodes from start on.
func runs(j api.Job, on api.Set, start int64) api.Job {
	j.State, j.On, j.Start = api.Running, on, start
	return j
}

// over is j, which has run on these nodes, and is over in that way.
func over(j api.Job, s api.JobState, on api.Set, start, end int64) api.Job {
	j = runs(j, on, start)
	j.State, j.End = s, end
	if s == api.Failed {
		j.Exit = 3
	}
	return j
}

// left is j, which is over by end and has never run.
func left(j api.Job, s api.JobState, end int64) api.Job {
	j.State, j.End = s, end
	return j
}

// sent is j, submitted at that time.
func sent(j api.Job, at int64) api.Job {
	j.Submit = at
	return j
}

// by is j, asked for by that account.
func by(account string, j api.Job) api.Job {
	j.Spec.Account = account
	return j
}

// at is j, with that quality.
func at(qos string, j api.Job) api.Job {
	j.Spec.Qos = qos
	return j
}

// in is j, asked for in that partition.
func in(part string, j api.Job) api.Job {
	j.Spec.Part = part
	return j
}

// held is a reservation.
func held(name string, nodes api.Set, from, to int64, accounts ...string) api.Resv {
	return api.Resv{Name: name, Nodes: nodes, From: from, To: to, Accounts: accounts}
}

func anyEnd(id int) api.Dep { return api.Dep{Kind: api.DepAny, Id: id} }
func good(id int) api.Dep   { return api.Dep{Kind: api.DepOk, Id: id} }
func bad(id int) api.Dep    { return api.Dep{Kind: api.DepFail, Id: id} }

// chapters is the state of the chapter's examples.
func chapters() api.State {
	return with(0, runs(waits(1, 1, 3, 10), 1, 0), waits(2, 2, 2, 10), waits(3, 1, 1, 10))
}

// rich is a right state, at 50, that has some of all.
func rich() api.State {
	s := with(50,
		over(sent(waits(1, 1, 1, 10), 1), api.Completed, 1, 2, 12),
		over(sent(waits(2, 1, 1, 10), 1), api.Failed, 2, 3, 10),
		runs(sent(waits(3, 1, 2, 10), 40), 1, 45),
		left(sent(waits(5, 1, 2, 10), 20), api.Cancelled, 30),
		sent(waits(6, 2, 3, 20, good(1)), 44),
		sent(by("bio", waits(8, 1, 1, 10, anyEnd(3), bad(2))), 50),
		runs(sent(by("lab", waits(9, 1, 1, 1)), 50), 2, 50),
	)
	s.Next = 12
	s.Resvs = of(held("r", 2, 60, 70, "phys"), held("s", 1, 90, 99, "bio"))
	s.Promises = of(api.Promise{Id: 6, Start: 70, On: 3}, api.Promise{Id: 8, Start: 55, On: 1})
	return s
}

// clone is a copy of l; one that is empty becomes none, so that both are the same.
func clone[T any](l []T) []T {
	return append([]T(nil), l...)
}

// anew is a copy of s that shares no list with it.
func anew(s api.State) api.State {
	s.Config.Cores, s.Config.Parts, s.Config.Accounts, s.Config.Qos = clone(s.Config.Cores), clone(s.Config.Parts), clone(s.Config.Accounts), clone(s.Config.Qos)
	s.Nodes, s.Jobs, s.Resvs, s.Promises = clone(s.Nodes), clone(s.Jobs), clone(s.Resvs), clone(s.Promises)
	for i := range s.Config.Parts {
		s.Config.Parts[i].Accounts = clone(s.Config.Parts[i].Accounts)
	}
	for i := range s.Jobs {
		s.Jobs[i].Spec.Deps = clone(s.Jobs[i].Spec.Deps)
	}
	for i := range s.Resvs {
		s.Resvs[i].Accounts = clone(s.Resvs[i].Accounts)
	}
	return s
}

// same tells whether two states are the same; an empty list is as none.
func same(a, b api.State) bool { return reflect.DeepEqual(anew(a), anew(b)) }

// sameAsk tells whether two asks are the same; an empty list is as none.
func sameAsk(a, b api.Ask) bool {
	a.Blocks, b.Blocks = clone(a.Blocks), clone(b.Blocks)
	return reflect.DeepEqual(a, b)
}

// sameProfile tells whether two profiles are the same.
func sameProfile(a, b [][]api.Cut) bool { return slices.EqualFunc(a, b, slices.Equal) }

// checkRight asks whether a state is right; if it is not, all other calls that ask it refuse it, whatever else they are handed.
func checkRight(t *testing.T, what string, s api.State, want bool) {
	t.Helper()
	if is := isRight(s); is != want {
		t.Errorf("%s: the test is wrong: %v", what, is)
	}
	for range 2 {
		if is := fifo.Right(s); is != want {
			t.Errorf("%s: right: %v", what, is)
		}
	}
	p, e := fifo.Profile(s)
	l, f := fifo.Pass(s)
	if want {
		if e != api.OK || f != api.OK || !sameProfile(p, profileOf(s)) || !slices.Equal(l, passOf(s)) {
			t.Errorf("%s: is right: %v, %d; %v, %d", what, p, e, l, f)
		}
		return
	}
	if e != api.ErrArg || f != api.ErrArg || p != nil || l != nil {
		t.Errorf("%s: is not right: %v, %d; %v, %d", what, p, e, l, f)
	}
	for _, x := range of(api.Start{}, api.Start{Id: 6, On: 3}, api.Start{Id: 8, On: 1}, api.Start{Id: 3, On: 1}, api.Start{Id: 77, On: 1}) {
		if n, g := fifo.Put(s, x); g != api.ErrArg || !reflect.DeepEqual(n, api.State{}) {
			t.Errorf("%s: is not right: Put of %v: %v, %d", what, x, n, g)
		}
	}
}

// checkPass asks for the starts of a right state, of which it is told what they are.
func checkPass(t *testing.T, what string, s api.State, want ...api.Start) {
	t.Helper()
	if model := passOf(s); !isRight(s) || !slices.Equal(model, want) {
		t.Errorf("%s: the test is wrong: %v, %v", what, isRight(s), model)
	}
	for range 2 {
		if l, e := fifo.Pass(s); e != api.OK || !slices.Equal(l, want) {
			t.Errorf("%s: %v, %d, not %v", what, l, e, want)
		}
	}
}

// checkPut puts a start into a state, and is told the error.
func checkPut(t *testing.T, what string, s api.State, x api.Start, want api.Errno) {
	t.Helper()
	next, err := putOf(s, x)
	if err != want {
		t.Errorf("%s: the test is wrong: %d", what, err)
	}
	for range 2 {
		if n, e := fifo.Put(s, x); e != want || !same(n, next) || e != api.OK && !reflect.DeepEqual(n, api.State{}) {
			t.Errorf("%s: Put of %v: %v, %d, not %v, %d", what, x, n, e, next, want)
		}
	}
	if want == api.OK && !fifo.Right(next) {
		t.Errorf("%s: Put of %v: %v is not right", what, x, next)
	}
}

// P22.1, P22.3: the chapter's examples.
func TestChapters(t *testing.T) {
	s := chapters()
	checkRight(t, "the chapter's", s, true)
	checkPass(t, "2 waits till 10", s)
	s.Jobs[1].Spec.Deps = of(good(1))
	checkPass(t, "2 waits for 1", s, api.Start{Id: 3, On: 1})
	want := [][]api.Cut{{{At: 0, Free: 1}, {At: 10, Free: 4}}, {{At: 0, Free: 4}}}
	if p, e := fifo.Profile(s); e != api.OK || !sameProfile(p, want) {
		t.Errorf("%v, %d", p, e)
	}
}
