package order_test

import (
	"reflect"
	"slices"
	"strings"
	"sync"
	"testing"

	"muster/api"
	"muster/order"
)

// roomy is l with others ahead of it and behind it, in its spare room.
func roomy[T any](l []T, other T) (whole, part []T) {
	whole = append(whole, other, other, other)
	whole = append(whole, l...)
	whole = append(whole, other, other, other)
	return whole, whole[3 : 3+len(l)]
}

// spoil puts another one into each place of l, and into its spare room.
func spoil[T any](l []T, other T) {
	l = l[:cap(l)]
	for i := range l {
		l[i] = other
	}
}

// anew is a copy of c that shares no list with it.
func anew(c api.Config) api.Config {
	c.Cores, c.Accounts, c.Qos, c.Parts = slices.Clone(c.Cores), slices.Clone(c.Accounts), slices.Clone(c.Qos), slices.Clone(c.Parts)
	for i := range c.Parts {
		c.Parts[i].Accounts = slices.Clone(c.Parts[i].Accounts)
	}
	return c
}

// handed is all lists that a call is handed, each with what stands ahead of it and behind it.
type handed struct {
	cores    []int
	parts    []api.Part
	users    [][]string
	accounts []api.Account
	qos      []api.Qos
	jobs     []api.Job
	deps     [][]api.Dep
}

// handing is copies of c and jobs whose lists all have others in their spare room, and all that a call could change of them.
func handing(c api.Config, jobs []api.Job) (handed, api.Config, []api.Job) {
	c = anew(c)
	var h handed
	for i := range c.Parts {
		var whole []string
		whole, c.Parts[i].Accounts = roomy(of("all"), "?")
		h.users = append(h.users, whole)
	}
	h.cores, c.Cores = roomy(c.Cores, -7)
	h.parts, c.Parts = roomy(c.Parts, part("main", 1000))
	h.accounts, c.Accounts = roomy(c.Accounts, api.Account{Name: "all", Parent: "?"})
	h.qos, c.Qos = roomy(c.Qos, quality("normal", 1000))
	h.jobs, jobs = roomy(jobs, waits(-1, "main", "normal"))
	for i := range jobs {
		var whole []api.Dep
		whole, jobs[i].Spec.Deps = roomy(of(api.Dep{Kind: 2, Id: 9}, api.Dep{Kind: 1, Id: 3}), api.Dep{Kind: 9, Id: -9})
		h.deps = append(h.deps, whole)
	}
	return h, c, jobs
}

// askAll makes all calls, and asks Ahead of all neighbours.
func askAll(c api.Config, jobs []api.Job) {
	order.Queue(c, jobs)
	for i, j := range jobs {
		order.Prio(c, j.Spec)
		order.Ahead(c, j, jobs[len(jobs)-1-i])
	}
	order.Queue(c, jobs)
}

// R3: what is handed in is not changed, nor its spare room, nor what stands ahead of it; be it answered or refused, and in no order of its own.
func TestHandedInIsLeft(t *testing.T) {
	check := func(what string, c api.Config, jobs []api.Job) {
		t.Helper()
		h, handedC, handedJobs := handing(c, jobs)
		before, _, _ := handing(c, jobs)
		askAll(handedC, handedJobs)
		if !reflect.DeepEqual(h, before) {
			t.Fatalf("%s: %v, %v: changed", what, c, jobs)
		}
	}
	rising := of(waits(1, "main", "normal"), waits(2, "main", "high"), waits(3, "debug", "normal"), in(api.Running, waits(4, "debug", "high")))
	check("the ones behind come first", chapters(), rising)
	check("all pending", chapters(), rising[:3])
	check("none pending", chapters(), rising[3:])
	check("none", chapters(), nil)
	for what, c := range wrongConfigs() {
		check(what, c, rising)
		slices.Reverse(rising)
	}
	d := dice(12)
	for range 5000 {
		c, _ := d.anyConfig()
		check("any", c, d.jobs(c, d.below(12)))
	}
}

// R3: what stands in spare room counts for nothing.
func TestSpareRoomIsNotAsked(t *testing.T) {
	d := dice(13)
	for range 3000 {
		c, right := d.anyConfig()
		jobs := d.jobs(c, d.below(9))
		_, handedC, handedJobs := handing(c, jobs)
		checkQueue(t, "spare room", handedC, handedJobs, queueOf(c, right, jobs)...)
		for _, j := range jobs {
			n, e := prioOf(c, right, j.Spec)
			checkPrio(t, "spare room", handedC, j.Spec, n, e)
		}
		if t.Failed() {
			t.Fatalf("%v", c)
		}
	}
}

// R3: what was handed in is not kept: whatever becomes of it, later calls tell what stands there then, and the same of the same.
func TestHandedInIsNotKept(t *testing.T) {
	for range 3 {
		c := chapters()
		jobs := of(waits(1, "main", "normal"), waits(2, "main", "high"), waits(3, "main", "normal"), waits(4, "debug", "normal"))
		checkQueue(t, "at first", c, jobs, 4, 2, 1, 3)
		c.Parts[1].Prio = 0
		checkQueue(t, "a partition counts less", c, jobs, 2, 1, 3, 4)
		checkPrio(t, "a partition counts less", c, jobs[3].Spec, 0, api.OK)
		c.Qos[0].Prio = 6
		checkQueue(t, "a quality counts more", c, jobs, 1, 3, 4, 2)
		checkAhead(t, "a quality counts more", c, jobs[0], jobs[1], true, false)
		c.Qos[0].Name = "x"
		checkQueue(t, "a quality has another name", c, jobs, 2, 1, 3, 4)
		checkPrio(t, "a quality has another name", c, jobs[0].Spec, 0, api.ErrName)
		c.Cores[0] = 0
		checkQueue(t, "a config that is not right", c, jobs, 1, 2, 3, 4)
		checkPrio(t, "a config that is not right", c, jobs[1].Spec, 0, api.ErrConfig)
		checkAhead(t, "a config that is not right", c, jobs[0], jobs[1], true, false)
		jobs[0].Id, jobs[1].State = 9, api.Running
		checkQueue(t, "other jobs", c, jobs, 3, 4, 9)
		spoil(jobs, waits(5, "main", "high"))
		checkQueue(t, "others once more", c, jobs, 5, 5, 5, 5)
		spoil(c.Parts, part("z", 0))
		checkQueue(t, "other partitions", c, jobs, 5, 5, 5, 5)
	}
}

// R3: each answer is new: what becomes of it, spare room too, changes nothing that was handed in, no other answer, and none that comes later.
func TestAnswersAreApart(t *testing.T) {
	d := dice(14)
	for range 1000 {
		c, right := d.anyConfig()
		jobs := d.jobs(c, d.below(20))
		h, handedC, handedJobs := handing(c, jobs)
		before, _, _ := handing(c, jobs)
		want := queueOf(c, right, jobs)
		first, second := order.Queue(handedC, handedJobs), order.Queue(handedC, handedJobs)
		spoil(first, -77)
		if !slices.Equal(second, want) {
			t.Fatalf("%v: %v: spoilt with another answer: %v, not %v", c, jobs, second, want)
		}
		if !reflect.DeepEqual(h, before) {
			t.Fatalf("%v, %v: changed with an answer", c, jobs)
		}
		spoil(handedJobs, waits(-78, "", ""))
		if third := order.Queue(c, jobs); !slices.Equal(second, want) || !slices.Equal(third, want) {
			t.Fatalf("%v: %v: %v and %v, not %v", c, jobs, second, third, want)
		}
	}
}

// R4: an answer hangs on the arguments alone, not on what was asked ahead of it: the same questions, in any order.
func TestEarlierCallsChangeNothing(t *testing.T) {
	d := dice(15)
	type question struct {
		c     api.Config
		jobs  []api.Job
		right bool
	}
	var all []question
	for range 300 {
		c, right := d.anyConfig()
		all = append(all, question{c, d.jobs(c, 2+d.below(9)), right})
	}
	for range 10 {
		for _, q := range turned(&d, all) {
			n, e := order.Prio(q.c, q.jobs[0].Spec)
			wantN, wantE := prioOf(q.c, q.right, q.jobs[0].Spec)
			is := order.Ahead(q.c, q.jobs[0], q.jobs[1])
			queue := order.Queue(q.c, q.jobs)
			if n != wantN || e != wantE || is != aheadOf(q.c, q.right, q.jobs[0], q.jobs[1]) || !slices.Equal(queue, queueOf(q.c, q.right, q.jobs)) {
				t.Fatalf("%v: %d, %d, %v, %v", q, n, e, is, queue)
			}
		}
	}
}

// R4: many callers at one time, with the same lists, are told the same as one.
func TestManyCallersAtOnce(t *testing.T) {
	d := dice(16)
	c := edges()
	jobs := d.jobs(c, 40)
	want := queueOf(c, true, jobs)
	var group sync.WaitGroup
	for k := range 8 {
		group.Go(func() {
			d := dice(k)
			for range 500 {
				a, b := one(&d, jobs), one(&d, jobs)
				n, e := order.Prio(c, a.Spec)
				wantN, wantE := prioOf(c, true, a.Spec)
				if n != wantN || e != wantE || order.Ahead(c, a, b) != aheadOf(c, true, a, b) || !slices.Equal(order.Queue(c, jobs), want) {
					t.Errorf("%v, %v: %d, %d", a, b, n, e)
					return
				}
			}
		})
	}
	group.Wait()
}

// R6: no list and an empty one are the same, of jobs and in the config.
func TestEmptyAndNone(t *testing.T) {
	jobs := of(waits(3, "main", "normal"), waits(2, "main", "high"), waits(1, "main", "normal"))
	for _, none := range of(nil, of[api.Job](), jobs[:0]) {
		checkQueue(t, "no jobs", chapters(), none)
		checkQueue(t, "no jobs, no config", api.Config{}, none)
	}
	empty := api.Config{Cores: []int{}, Parts: []api.Part{}, Accounts: []api.Account{}, Qos: []api.Qos{}}
	for _, c := range of(api.Config{}, empty) {
		checkQueue(t, "no config", c, jobs, 1, 2, 3)
		checkPrio(t, "no config", c, jobs[0].Spec, 0, api.ErrConfig)
	}
	c := chapters()
	for i := range c.Parts {
		c.Parts[i].Accounts = []string{}
	}
	checkQueue(t, "no accounts of a partition", c, jobs, 2, 1, 3)
}

// R1: long lists and long texts are answered, too.
func TestLongArgumentsEnd(t *testing.T) {
	c := edges()
	count := 1 << 18
	var jobs []api.Job
	for i := range count {
		jobs = append(jobs, waits(count-i, of("p0", "p1000")[i%2], "q0"))
	}
	queue := order.Queue(c, jobs)
	if len(queue) != count {
		t.Fatalf("%d of %d", len(queue), count)
	}
	for i, id := range queue {
		want := 2*i + 1 // the odd ids are those of p1000
		if i >= count/2 {
			want = 2 * (i - count/2 + 1)
		}
		if id != want {
			t.Fatalf("the %dth is %d, not %d", i, id, want)
		}
	}
	long := strings.Repeat("a", 1<<20)
	checkPrio(t, "long names", c, spec(long, "q0"), 0, api.ErrName)
	checkPrio(t, "long names", c, spec("p0", long), 0, api.ErrName)
	checkAhead(t, "long names", c, waits(1, long, long), waits(2, long, long), true, false)
	checkQueue(t, "long names", c, of(waits(2, long, "q1"), waits(1, "p1", long)), 1, 2)
	c.Parts[0].Name = long
	checkPrio(t, "a long name in the config", c, spec(long, "q0"), 0, api.ErrConfig)
	c.Parts = slices.Repeat(of(part("p0", 1)), 1<<16)
	checkPrio(t, "many partitions", c, spec("p0", "q0"), 0, api.ErrConfig)
	checkQueue(t, "many partitions", c, of(waits(2, "p0", "q1"), waits(1, "p0", "q0")), 1, 2)
}
