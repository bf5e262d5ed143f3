package order_test

import (
	"math"
	"slices"
	"testing"

	"muster/api"
	"muster/order"
)

// P21.2: no job, one, none that is pending, all of them.
func TestQueueOfFew(t *testing.T) {
	c := chapters()
	checkQueue(t, "none", c, nil)
	checkQueue(t, "none", c, of[api.Job]())
	checkQueue(t, "one", c, of(waits(7, "main", "normal")), 7)
	checkQueue(t, "one that runs", c, of(in(api.Running, waits(7, "main", "normal"))))
	checkQueue(t, "none pending", c, of(in(api.Running, waits(1, "debug", "high")), in(api.Completed, waits(2, "main", "high")), in(api.Never, waits(3, "main", "normal"))))
	checkQueue(t, "all pending", c, of(waits(1, "main", "normal"), waits(2, "main", "high"), waits(3, "debug", "normal")), 3, 2, 1)
	checkQueue(t, "one pending", c, of(in(api.Running, waits(1, "main", "normal")), waits(2, "main", "high"), in(api.Failed, waits(3, "debug", "normal"))), 2)
}

// P21.2: jobs in every other state are left out, wherever they stand and whatever their Prio.
func TestQueueOfEachState(t *testing.T) {
	c := chapters()
	for s := range 256 {
		state := api.JobState(s)
		if state == pending {
			continue
		}
		out := in(state, waits(9, "debug", "high"))
		checkQueue(t, "alone", c, of(out))
		checkQueue(t, "ahead of one", c, of(out, waits(1, "main", "normal")), 1)
		checkQueue(t, "between two", c, of(waits(2, "main", "normal"), out, waits(1, "main", "normal")), 1, 2)
		checkQueue(t, "behind two", c, of(waits(2, "main", "high"), waits(1, "main", "normal"), out), 2, 1)
		checkQueue(t, "with the id of one that waits", c, of(out, waits(9, "main", "normal"), out), 9)
	}
}

// P21.2: equal Prio, with ids that rise, fall, and stand anyhow, 0 and below 0 among them.
func TestQueueOfOnePrio(t *testing.T) {
	c := edges()
	rising := of(math.MinInt, -maxId, -10, -2, -1, 0, 1, 2, 10, maxId, math.MaxInt)
	for _, names := range of([2]string{"p0", "q0"}, [2]string{"p1", "q1"}, [2]string{"p1000", "q1000"}, [2]string{"x", "q0"}, [2]string{"p1000", ""}) {
		var jobs []api.Job
		for _, id := range rising {
			jobs = append(jobs, waits(id, names[0], names[1]))
		}
		checkQueue(t, "rising", c, jobs, rising...)
		slices.Reverse(jobs)
		checkQueue(t, "falling", c, jobs, rising...)
		d := dice(3)
		for range 20 {
			checkQueue(t, "anyhow", c, turned(&d, jobs), rising...)
		}
	}
	checkQueue(t, "partitions of the same Prio", c, of(waits(3, "p1", "q0"), waits(1, "also1", "q0"), waits(2, "p1", "q0"), waits(0, "also1", "q0")), 0, 1, 2, 3)
	checkQueue(t, "qualities of the same Prio", c, of(waits(3, "p1", "q1000"), waits(1, "p1", "same1000"), waits(2, "p1", "q1000"), waits(0, "p1", "same1000")), 0, 1, 2, 3)
}

// P21.2: unlike Prio at all edges; no quality makes up for a partition.
func TestQueueOfManyPrios(t *testing.T) {
	c := edges()
	jobs := of(
		waits(1, "p0", "q0"), waits(2, "p0", "q1"), waits(3, "p0", "q1000"), waits(4, "p1", "q0"), waits(5, "p1", "q1000"), waits(6, "p2", "q0"),
		waits(7, "p999", "q1000"), waits(8, "p1000", "q0"), waits(9, "p1000", "q999"), waits(10, "p1000", "q1000"))
	want := of(10, 9, 8, 7, 6, 5, 4, 3, 2, 1)
	checkQueue(t, "rising", c, jobs, want...)
	slices.Reverse(jobs)
	checkQueue(t, "falling", c, jobs, want...)
	d := dice(4)
	for range 100 {
		checkQueue(t, "anyhow", c, turned(&d, jobs), want...)
	}
}

// P21.2: jobs whose partition or quality is not there stand among those of Prio 0, by their ids.
func TestQueueOfWhatIsNotThere(t *testing.T) {
	c := edges()
	jobs := of(waits(6, "p0", "q0"), waits(5, "x", "q1000"), waits(4, "p0", "q0"), waits(3, "p1000", "x"), waits(2, "also0", "same0"), waits(1, "", ""), waits(7, "p0", "q1"), waits(8, "x", "y"))
	checkQueue(t, "not there", c, jobs, 7, 1, 2, 3, 4, 5, 6, 8)
	slices.Reverse(jobs)
	checkQueue(t, "not there, reversed", c, jobs, 7, 1, 2, 3, 4, 5, 6, 8)
}

// P21.2: with a config that is not right the ids alone count.
func TestQueueOfAWrongConfig(t *testing.T) {
	jobs := of(waits(3, "debug", "high"), waits(5, "x", "high"), waits(1, "main", "normal"), in(api.Running, waits(0, "main", "normal")), waits(2, "main", "high"), waits(-4, "", ""))
	checkQueue(t, "a right one", chapters(), jobs, 3, 2, -4, 1, 5)
	for what, c := range wrongConfigs() {
		checkQueue(t, what, c, jobs, -4, 1, 2, 3, 5)
	}
}

// P21.2: two jobs with the same id, each of which stands in the queue for itself.
func TestQueueOfOneIdTwice(t *testing.T) {
	c := chapters()
	low, high, other := waits(2, "main", "normal"), waits(2, "main", "high"), waits(1, "main", "normal")
	checkQueue(t, "side by side, the same Prio", c, of(low, low), 2, 2)
	checkQueue(t, "side by side, unlike Prio", c, of(low, high), 2, 2)
	checkQueue(t, "apart, the same Prio", c, of(low, other, low), 1, 2, 2)
	checkQueue(t, "apart, the same Prio, a greater id between", c, of(low, waits(3, "main", "normal"), low), 2, 2, 3)
	for _, jobs := range of(of(low, other, high), of(high, other, low), of(low, high, other), of(other, high, low)) {
		checkQueue(t, "unlike Prio, told apart by another one", c, jobs, 2, 1, 2)
	}
	checkQueue(t, "one of them runs", c, of(in(api.Running, high), other, low), 1, 2)
	checkQueue(t, "one of them waits", c, of(high, other, in(api.Running, low)), 2, 1)
	checkQueue(t, "many times", c, slices.Repeat(of(low, other, high), 3), 2, 2, 2, 1, 1, 1, 2, 2, 2)
	checkQueue(t, "an id of 0 twice", c, of(waits(0, "main", "normal"), waits(0, "debug", "normal"), waits(-1, "main", "high")), 0, -1, 0)
}

// P21.2: any jobs of any config, few or many, held against plain words.
func TestQueueOfAny(t *testing.T) {
	d := dice(5)
	for i := range 10000 {
		c, right := d.anyConfig()
		few := 12
		if i%50 == 0 {
			few = 200
		}
		for _, jobs := range of(d.jobs(c, d.below(few)), d.unlike(c, d.below(few))) {
			checkQueue(t, "any", c, jobs, queueOf(c, right, jobs)...)
			if t.Failed() {
				t.Fatalf("%v", c)
			}
		}
	}
}

// P21.2: all lists of up to four jobs of a few kinds.
func TestQueueOfShortLists(t *testing.T) {
	c := chapters()
	out := of(waits(1, "main", "normal"), waits(2, "main", "normal"), waits(2, "main", "high"), waits(3, "debug", "normal"), waits(3, "x", "high"), waits(0, "main", ""), in(api.Running, waits(1, "debug", "high")))
	count := 0
	var longer func(l []api.Job)
	longer = func(l []api.Job) {
		count++
		if got, want := order.Queue(c, l), queueOf(c, true, l); !slices.Equal(got, want) {
			t.Fatalf("%v: %v, not %v", l, got, want)
		}
		if len(l) < 4 {
			for _, j := range out {
				longer(append(slices.Clone(l), j))
			}
		}
	}
	longer(nil)
	if count != 1+7+49+343+2401 {
		t.Errorf("the test is wrong: %d lists", count)
	}
}
