package order_test

import (
	"math"
	"slices"
	"testing"

	"muster/api"
	"muster/order"
)

// crowd is jobs with all edges of ids and of Prio, in some states, right or not.
func crowd() []api.Job {
	var l []api.Job
	for _, id := range of(math.MinInt, -1, 0, 1, 2, maxId, math.MaxInt) {
		for _, names := range of([2]string{"p0", "q0"}, [2]string{"also0", "same0"}, [2]string{"p0", "q1000"}, [2]string{"p1", "q0"}, [2]string{"p1000", "q1000"}, [2]string{"x", "q1000"}, [2]string{"p1000", ""}) {
			l = append(l, in(api.JobState(1+len(l)%8), waits(id, names[0], names[1])))
		}
	}
	return l
}

// P21.3: of two jobs of unlike ids just one is ahead of the other; of the same id never both, and no job is ahead of itself.
func TestJustOneIsAhead(t *testing.T) {
	unlike := 0
	check := func(c api.Config, a, b api.Job) {
		t.Helper()
		one, other := order.Ahead(c, a, b), order.Ahead(c, b, a)
		if one && other {
			t.Fatalf("%v: %v, %v: both", c, a, b)
		}
		if a.Id == b.Id {
			return
		}
		if unlike++; !one && !other {
			t.Fatalf("%v: %v, %v: neither", c, a, b)
		}
	}
	for _, c := range of(edges(), chapters(), api.Config{}) {
		for _, a := range crowd() {
			for _, b := range crowd() {
				check(c, a, b)
			}
			if order.Ahead(c, a, a) {
				t.Fatalf("%v: %v is ahead of itself", c, a)
			}
		}
	}
	d := dice(6)
	for range 10000 {
		c, _ := d.anyConfig()
		jobs := d.jobs(c, 4)
		for i := range jobs {
			for k := range i {
				check(c, jobs[i], jobs[k])
			}
		}
	}
	if unlike < 20000 {
		t.Errorf("the test is wrong: %d pairs of unlike ids", unlike)
	}
}

// P21.3: if a is ahead of b, and b of c, a is ahead of c; of the same ids, too.
func TestAheadGoesThrough(t *testing.T) {
	through := 0
	check := func(c api.Config, l []api.Job) {
		t.Helper()
		is := make([][]bool, len(l)) // asked once of each two
		for i, a := range l {
			for _, b := range l {
				is[i] = append(is[i], order.Ahead(c, a, b))
			}
		}
		for i := range l {
			for k := range l {
				for m := range l {
					if !is[i][k] || !is[k][m] {
						continue
					}
					if through++; !is[i][m] {
						t.Fatalf("%v: %v ahead of %v, that one of %v, and not the first of the last", c, l[i], l[k], l[m])
					}
				}
			}
		}
	}
	for _, c := range of(edges(), chapters(), api.Config{}) {
		check(c, crowd())
	}
	d := dice(7)
	for range 5000 {
		c, _ := d.anyConfig()
		check(c, d.jobs(c, 7))
	}
	if through < 100000 {
		t.Errorf("the test is wrong: %d go through", through)
	}
}

// P21.2, P21.3: the queue holds each pending job as often as it stands there, and nobody else.
func TestQueueHoldsThePendingOnes(t *testing.T) {
	d := dice(8)
	twice := 0
	for range 10000 {
		c, _ := d.anyConfig()
		jobs := d.jobs(c, d.below(30))
		count := map[int]int{}
		waiting := 0
		for _, j := range jobs {
			if j.State == pending {
				waiting++
				if count[j.Id]++; count[j.Id] > 1 {
					twice++
				}
			}
		}
		queue := order.Queue(c, jobs)
		for _, id := range queue {
			if count[id]--; count[id] < 0 {
				t.Fatalf("%v: %v: %d is there too often: %v", c, jobs, id, queue)
			}
		}
		if len(queue) != waiting {
			t.Fatalf("%v: %v: %d of %d are there: %v", c, jobs, len(queue), waiting, queue)
		}
	}
	if twice < 1000 {
		t.Errorf("the test is wrong: %d stand there twice", twice)
	}
}

// P21.2, P21.3: of each two in the queue the one that stands ahead is ahead.
func TestQueueIsInOrder(t *testing.T) {
	d := dice(9)
	pairs := 0
	for range 5000 {
		c, _ := d.anyConfig()
		jobs := d.unlike(c, d.below(20))
		byId := map[int]api.Job{}
		for _, j := range jobs {
			byId[j.Id] = j
		}
		queue := order.Queue(c, jobs)
		for i, a := range queue {
			for _, b := range queue[i+1:] {
				if pairs++; !order.Ahead(c, byId[a], byId[b]) {
					t.Fatalf("%v: %v: %d stands ahead of %d: %v", c, jobs, a, b, queue)
				}
			}
		}
	}
	if pairs < 50000 {
		t.Errorf("the test is wrong: %d pairs", pairs)
	}
}

// P21.3: of unlike ids the queue does not hang on the order in which the jobs are handed in, nor on what else is among them.
func TestQueueOfAnyOrder(t *testing.T) {
	d := dice(10)
	for range 3000 {
		c, _ := d.anyConfig()
		jobs := d.unlike(c, d.below(12))
		queue := order.Queue(c, jobs)
		for range 10 {
			mixed := turned(&d, append(slices.Clone(jobs), in(api.Running, d.job(c, 1)), in(api.Never, d.job(c, d.id(9)))))
			if other := order.Queue(c, mixed); !slices.Equal(queue, other) {
				t.Fatalf("%v: %v: %v; in another order %v", c, jobs, queue, other)
			}
		}
		slices.Reverse(jobs)
		if other := order.Queue(c, jobs); !slices.Equal(queue, other) {
			t.Fatalf("%v: %v: %v; the other way round %v", c, jobs, other, queue)
		}
	}
}

// P21.3: all orders of seven jobs, of which some have the same Prio.
func TestQueueOfEachOrder(t *testing.T) {
	c := chapters()
	jobs := of(waits(1, "main", "normal"), waits(2, "x", "high"), waits(3, "main", "high"), waits(4, "debug", "normal"), waits(0, "debug", "normal"), waits(-1, "main", "high"), waits(6, "main", "normal"))
	count := 0
	var each func(ahead, left []api.Job)
	each = func(ahead, left []api.Job) {
		for i, j := range left {
			each(append(slices.Clone(ahead), j), slices.Delete(slices.Clone(left), i, i+1))
		}
		if len(left) > 0 {
			return
		}
		count++
		if got := order.Queue(c, ahead); !slices.Equal(got, of(0, 4, -1, 3, 1, 2, 6)) {
			t.Fatalf("%v: %v", ahead, got)
		}
	}
	each(nil, jobs)
	if count != 5040 {
		t.Errorf("the test is wrong: %d orders", count)
	}
}

// P21.3: one that leaves, or comes, changes nothing among the others.
func TestQueueOfOneLess(t *testing.T) {
	d := dice(11)
	for range 5000 {
		c, _ := d.anyConfig()
		jobs := d.unlike(c, 1+d.below(10))
		place := d.below(len(jobs))
		less := slices.Delete(slices.Clone(jobs), place, place+1)
		want := slices.DeleteFunc(order.Queue(c, jobs), func(id int) bool { return id == jobs[place].Id })
		if got := order.Queue(c, less); !slices.Equal(got, want) {
			t.Fatalf("%v: %v without %v: %v, not %v", c, jobs, jobs[place], got, want)
		}
	}
}
