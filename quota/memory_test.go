package quota_test

import (
	"reflect"
	"sync"
	"testing"

	"muster/api"
	"muster/quota"
)

// askAll makes all calls, with arguments that are answered and with some that are refused.
func askAll(c api.Config, jobs []api.Job) {
	quota.Right(c)
	for _, account := range of("all", "phys", "x", "") {
		quota.Cores(c, jobs, account)
		for _, name := range of("normal", "small", "x", "") {
			quota.Qos(c, jobs, name)
			for _, cores := range of(1, 3, 64) {
				s := spec(account, name, 1, cores)
				s.Deps = of(api.Dep{Kind: api.DepOk, Id: 1})
				quota.May(c, jobs, s)
			}
		}
	}
}

// roomy is l with other elements ahead of it and behind it, in its spare room.
func roomy[T any](l []T, other T) (whole, part []T) {
	whole = append(whole, other, other, other)
	whole = append(whole, l...)
	whole = append(whole, other, other, other)
	return whole, whole[3 : 3+len(l)]
}

// handed is all lists that a call is handed, each with what stands ahead of it and behind it.
type handed struct {
	accounts []api.Account
	qos      []api.Qos
	cores    []int
	parts    []api.Part
	jobs     []api.Job
	deps     []api.Dep
	who      []string
}

// handing is what the calls are handed, and all that they could change of it.
func handing(c api.Config, jobs []api.Job) (handed, api.Config, []api.Job) {
	var h handed
	var deps []api.Dep
	var who []string
	h.deps, deps = roomy(of(api.Dep{Kind: api.DepOk, Id: 3}), api.Dep{Kind: 9, Id: 9})
	h.who, who = roomy(of("phys"), "?")
	h.cores, c.Cores = roomy(of(4, 8), -7)
	h.parts, c.Parts = roomy(of(api.Part{Name: "main", Accounts: who}), api.Part{Name: "?"})
	h.accounts, c.Accounts = roomy(c.Accounts, child("?", "!", -77))
	h.qos, c.Qos = roomy(c.Qos, quality("?", -77, -77))
	h.jobs, jobs = roomy(jobs, running("all", "normal", 7, 7))
	for i := range jobs {
		jobs[i].Spec.Deps = deps
	}
	return h, c, jobs
}

// manyJobs are some of each kind.
func manyJobs() []api.Job {
	return of(running("phys", "normal", 2, 3), inState(api.Pending, spec("all", "normal", 9, 9)), running("x", "small", 1, 1), running("all", "x", 1, 1))
}

// R3: what is handed in is not changed, nor its spare room, nor what stands ahead of it.
func TestHandedInIsLeft(t *testing.T) {
	configs := wrongConfigs()
	configs["the chapter's"] = chapters()
	configs["two qualities"] = config(chapters().Accounts, of(quality("small", 3, -1), quality("normal", -1, 2)))
	for name, c := range configs {
		h, c, jobs := handing(c, manyJobs())
		before, _, _ := handing(anew(c), manyJobs())
		if !reflect.DeepEqual(h, before) {
			t.Fatalf("%s: the test is wrong", name)
		}
		askAll(c, jobs)
		if !reflect.DeepEqual(h, before) {
			t.Errorf("%s: changed", name)
		}
	}
}

// told is what the calls tell of c and jobs; these are numbers alone, so that answers have no memory to share.
type told struct {
	right            bool
	all, phys, cores int
	n                int
	may, mayNot      api.Errno
	errs             [3]api.Errno
}

func toldOf(c api.Config, jobs []api.Job) told {
	var x told
	x.right = quota.Right(c)
	x.all, x.errs[0] = quota.Cores(c, jobs, "all")
	x.phys, x.errs[1] = quota.Cores(c, jobs, "phys")
	x.cores, x.n, x.errs[2] = quota.Qos(c, jobs, "normal")
	x.may, x.mayNot = quota.May(c, jobs, spec("phys", "normal", 1, 2)), quota.May(c, jobs, spec("phys", "normal", 1, 3))
	return x
}

// R3: what was handed in is not kept: whatever becomes of it, later calls tell what stands there then, and the same of the same.
func TestHandedInIsNotKept(t *testing.T) {
	first := told{right: true, all: 7, phys: 6, cores: 6, n: 1, may: api.OK, mayNot: api.ErrLimit}
	for range 3 {
		c, jobs := chapters(), manyJobs()
		if x := toldOf(c, jobs); x != first {
			t.Fatalf("%v", x)
		}
		c.Accounts[1].Limit = 9
		if x := toldOf(c, jobs); x.may != api.OK || x.mayNot != api.OK {
			t.Fatalf("a limit is another: %v", x)
		}
		c.Qos[0].Jobs = 1
		if x := toldOf(c, jobs); x.may != api.ErrLimit || x.mayNot != api.ErrLimit {
			t.Fatalf("a quality is another: %v", x)
		}
		jobs[0].State = api.Completed
		if x := toldOf(c, jobs); x.all != 1 || x.phys != 0 || x.cores != 0 || x.n != 0 || x.may != api.OK {
			t.Fatalf("a job is over: %v", x)
		}
		jobs[3].Spec.Account = "phys"
		if x := toldOf(c, jobs); x.all != 1 || x.phys != 1 {
			t.Fatalf("a job is another's: %v", x)
		}
		c.Accounts[1].Parent = ""
		if x := toldOf(c, jobs); x.all != 0 || x.phys != 1 {
			t.Fatalf("an account has no parent: %v", x)
		}
		c.Qos[0].Prio = mostPrio + 1
		if x := toldOf(c, jobs); x != (told{may: api.ErrArg, mayNot: api.ErrArg, errs: [3]api.Errno{api.ErrArg, api.ErrArg, api.ErrArg}}) {
			t.Fatalf("a priority is wrong: %v", x)
		}
	}
}

// R6: no list and the empty one are the same.
func TestEmptyAndNone(t *testing.T) {
	c := chapters()
	if toldOf(c, nil) != toldOf(c, []api.Job{}) || toldOf(config(nil, c.Qos), nil) != toldOf(config([]api.Account{}, c.Qos), nil) || toldOf(config(c.Accounts, nil), nil) != toldOf(config(c.Accounts, []api.Qos{}), nil) {
		t.Error("they are told apart")
	}
}

// R4: answers hang on nothing but the arguments: many callers of one config at one time are told the same as one.
func TestManyCallersAtOnce(t *testing.T) {
	d := dice(8)
	c := d.config()
	for len(c.Accounts) < 10 || len(c.Qos) < 4 {
		c = d.config()
	}
	jobs := d.jobs(c)
	for len(jobs) < 8 {
		jobs = d.jobs(c)
	}
	var group sync.WaitGroup
	for k := range 8 {
		group.Add(1)
		go func() {
			defer group.Done()
			d := dice(k)
			for range 500 {
				s := d.spec(c)
				n, e := quota.Cores(c, jobs, s.Account)
				wantN, f := coresOf(c, jobs, s.Account)
				cores, m, g := quota.Qos(c, jobs, s.Qos)
				wantCores, wantM, h := qosOf(c, jobs, s.Qos)
				if n != wantN || e != f || cores != wantCores || m != wantM || g != h || quota.May(c, jobs, s) != mayOf(c, jobs, s) || !quota.Right(c) {
					t.Errorf("%v: %d, %d; %d, %d, %d", s, n, e, cores, m, g)
					return
				}
			}
		}()
	}
	group.Wait()
}
