package order_test

import (
	"slices"
	"testing"

	"muster/api"
	"muster/order"
)

// The tests' own numbers, so that they don't lean on what they test.
const (
	maxParts = 8
	maxQos   = 8
	maxId    = 1073741824 // 2^30
	mostPrio = 1000       // of a partition, and of a quality
	pending  = api.JobState(1)
)

// of is the list of these.
func of[T any](l ...T) []T { return l }

// part is a partition of both nodes, with that priority.
func part(name string, prio int) api.Part {
	return api.Part{Name: name, Nodes: 3, Prio: prio, MaxLimit: 100}
}

// quality is one without limits, with that priority.
func quality(name string, prio int) api.Qos {
	return api.Qos{Name: name, Prio: prio, Limit: -1, Jobs: -1}
}

// config is a right one that has these.
func config(parts []api.Part, qos []api.Qos) api.Config {
	return api.Config{Cores: of(4, 8), Parts: parts, Accounts: of(api.Account{Name: "all", Limit: -1}), Qos: qos, Policy: api.Fifo}
}

// chapters is the config of the chapter's examples.
func chapters() api.Config {
	return config(of(part("main", 0), part("debug", 2)), of(quality("normal", 0), quality("high", 5)))
}

// edges is a config with a partition and a quality of the least Prio and of the greatest, and of each Prio that is next to another one; the names tell the Prio, and some stand under two names.
func edges() api.Config {
	return config(
		of(part("p1000", 1000), part("p0", 0), part("p1", 1), part("p999", 999), part("also0", 0), part("also1", 1), part("also1000", 1000), part("p2", 2)),
		of(quality("q0", 0), quality("q1000", 1000), quality("q1", 1), quality("q999", 999), quality("same0", 0), quality("same1000", 1000), quality("same1", 1), quality("q2", 2)),
	)
}

// spec is what asks for that partition and that quality, and for nothing else.
func spec(part, qos string) api.Spec { return api.Spec{Part: part, Qos: qos} }

// waits is a job of that id, which is pending.
func waits(id int, part, qos string) api.Job {
	return api.Job{Id: id, State: pending, Spec: spec(part, qos)}
}

// in is j in another state.
func in(s api.JobState, j api.Job) api.Job {
	j.State = s
	return j
}

// prioOf is Prio in plain words, of a config that is right or not.
func prioOf(c api.Config, right bool, s api.Spec) (int, api.Errno) {
	if !right {
		return 0, api.ErrConfig
	}
	sum, parts, qualities := 0, 0, 0
	for _, p := range c.Parts {
		if p.Name == s.Part {
			parts++
			sum += 1000*p.Prio + p.Prio
		}
	}
	for _, q := range c.Qos {
		if q.Name == s.Qos {
			qualities++
			sum += q.Prio
		}
	}
	if parts != 1 || qualities != 1 {
		return 0, api.ErrName
	}
	return sum, api.OK
}

// aheadOf is Ahead in plain words.
func aheadOf(c api.Config, right bool, a, b api.Job) bool {
	of, than := 0, 0
	if n, e := prioOf(c, right, a.Spec); e == api.OK {
		of = n
	}
	if n, e := prioOf(c, right, b.Spec); e == api.OK {
		than = n
	}
	if of == than {
		return a.Id < b.Id
	}
	return of > than
}

// queueOf is Queue in plain words: the first of the pending ones that nobody is ahead of, then of those that are left, and so on.
func queueOf(c api.Config, right bool, jobs []api.Job) []int {
	var left []api.Job
	for _, j := range jobs {
		if j.State == pending {
			left = append(left, j)
		}
	}
	var ids []int
	for len(left) > 0 {
		next := 0
		for i := range left {
			if aheadOf(c, right, left[i], left[next]) {
				next = i
			}
		}
		ids = append(ids, left[next].Id)
		left = append(left[:next:next], left[next+1:]...)
	}
	return ids
}

// checkPrio asks Prio, of which it is told what it answers.
func checkPrio(t *testing.T, what string, c api.Config, s api.Spec, n int, err api.Errno) {
	t.Helper()
	for range 2 {
		if got, e := order.Prio(c, s); got != n || e != err {
			t.Errorf("%s: Prio of %q, %q = %d, %d, not %d, %d", what, s.Part, s.Qos, got, e, n, err)
		}
	}
}

// checkAhead asks Ahead both ways about, of which it is told what each answers.
func checkAhead(t *testing.T, what string, c api.Config, a, b api.Job, is, back bool) {
	t.Helper()
	for range 2 {
		if got, other := order.Ahead(c, a, b), order.Ahead(c, b, a); got != is || other != back {
			t.Errorf("%s: Ahead of %v, %v = %v, not %v; the other way round %v, not %v", what, a, b, got, is, other, back)
		}
	}
}

// checkQueue asks Queue, of which it is told what it answers.
func checkQueue(t *testing.T, what string, c api.Config, jobs []api.Job, ids ...int) {
	t.Helper()
	for range 2 {
		if got := order.Queue(c, jobs); !slices.Equal(got, ids) {
			t.Errorf("%s: Queue of %v = %v, not %v", what, jobs, got, ids)
		}
	}
}

// P21.1, P21.2: the chapter's examples.
func TestChapters(t *testing.T) {
	c := chapters()
	checkPrio(t, "the chapter's", c, spec("debug", "high"), 2007, api.OK)
	checkPrio(t, "the chapter's", c, spec("main", "high"), 5, api.OK)
	checkPrio(t, "the chapter's", c, spec("main", "normal"), 0, api.OK)
	jobs := of(waits(1, "main", "normal"), waits(2, "main", "high"), waits(3, "main", "normal"), waits(4, "debug", "normal"))
	checkQueue(t, "the chapter's", c, jobs, 4, 2, 1, 3)
	for i, a := range of(4, 2, 1, 3) {
		for k, b := range of(4, 2, 1, 3) {
			checkAhead(t, "the chapter's", c, jobs[a-1], jobs[b-1], i < k, k < i)
		}
	}
}
