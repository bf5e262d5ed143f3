package order_test

import (
	"math"
	"testing"

	"muster/api"
	"muster/order"
)

// P21.2: the greater Prio is ahead, whatever the ids.
func TestAheadByPrio(t *testing.T) {
	c := edges()
	for _, id := range of([2]int{1, 2}, [2]int{2, 1}, [2]int{0, -1}, [2]int{7, 7}, [2]int{math.MinInt, math.MaxInt}, [2]int{math.MaxInt, math.MinInt}) {
		checkAhead(t, "by the quality", c, waits(id[0], "p0", "q1"), waits(id[1], "p0", "q0"), true, false)
		checkAhead(t, "by the quality, at its end", c, waits(id[0], "p0", "q1000"), waits(id[1], "p0", "q999"), true, false)
		checkAhead(t, "by the partition", c, waits(id[0], "p1", "q0"), waits(id[1], "p0", "q0"), true, false)
		checkAhead(t, "by the partition, at its end", c, waits(id[0], "p1000", "q0"), waits(id[1], "p999", "q0"), true, false)
		checkAhead(t, "the partition, against the greatest quality", c, waits(id[0], "p1", "q0"), waits(id[1], "p0", "q1000"), true, false)
		checkAhead(t, "the partition, against the greatest quality, at its end", c, waits(id[0], "p1000", "q0"), waits(id[1], "p999", "q1000"), true, false)
		checkAhead(t, "the quality, of partitions that count the same", c, waits(id[0], "also1", "q2"), waits(id[1], "p1", "q1"), true, false)
		checkAhead(t, "the partition, of qualities that count the same", c, waits(id[0], "p2", "same1"), waits(id[1], "p1", "q1"), true, false)
		checkAhead(t, "the greatest against the least", c, waits(id[0], "p1000", "q1000"), waits(id[1], "p0", "q0"), true, false)
	}
}

// P21.2: of the same Prio the lesser id is ahead; of the same id nobody is.
func TestAheadById(t *testing.T) {
	c := edges()
	rising := of(math.MinInt, math.MinInt+1, -maxId, -2, -1, 0, 1, 2, 9, 10, 11, 1<<31, 1<<32, 1<<32+1, math.MaxInt-1, math.MaxInt)
	for _, names := range of([4]string{"p0", "q0", "p0", "q0"}, [4]string{"p0", "q0", "also0", "same0"}, [4]string{"p1", "q1000", "also1", "same1000"}, [4]string{"p1000", "q1000", "p1000", "q1000"}) {
		for i, a := range rising {
			for k, b := range rising {
				checkAhead(t, "by id", c, waits(a, names[0], names[1]), waits(b, names[2], names[3]), i < k, k < i)
			}
		}
	}
}

// P21.2: a job whose partition or quality is not there counts as one of Prio 0, not below it.
func TestAheadOfWhatIsNotThere(t *testing.T) {
	c := edges()
	for _, names := range of([2]string{"x", "q1000"}, [2]string{"p1000", "x"}, [2]string{"x", "x"}, [2]string{"", "q1000"}, [2]string{"p1000", ""}, [2]string{"", ""}, [2]string{"q1000", "p1000"}) {
		gone := waits(5, names[0], names[1])
		checkAhead(t, "Prio 0, a lesser id", c, waits(4, "p0", "q0"), gone, true, false)
		checkAhead(t, "Prio 0, the same id", c, waits(5, "p0", "q0"), gone, false, false)
		checkAhead(t, "Prio 0, a greater id", c, waits(6, "p0", "q0"), gone, false, true)
		checkAhead(t, "Prio 1", c, waits(6, "p0", "q1"), gone, true, false)
		checkAhead(t, "another one", c, waits(4, "x", "y"), gone, true, false)
		checkAhead(t, "another one", c, waits(6, "", "y"), gone, false, true)
	}
}

// P21.2: with a config that is not right every Prio is an error, so that ids alone count.
func TestAheadOfAWrongConfig(t *testing.T) {
	for what, c := range wrongConfigs() {
		for _, names := range of([2]string{"main", "normal"}, [2]string{"main", "high"}, [2]string{"debug", "high"}, [2]string{"x", "high"}, [2]string{"", ""}) {
			checkAhead(t, what, c, waits(1, "main", "normal"), waits(2, names[0], names[1]), true, false)
			checkAhead(t, what, c, waits(2, "main", "normal"), waits(1, names[0], names[1]), false, true)
			checkAhead(t, what, c, waits(1, "main", "normal"), waits(1, names[0], names[1]), false, false)
		}
	}
}

// P21.2: nothing else of a job is asked, its state neither.
func TestAheadAsksNothingElse(t *testing.T) {
	c := edges()
	other := func(j api.Job, n int) api.Job {
		j.Of, j.Index, j.Exit, j.Submit, j.Start, j.End, j.On = n, n, n, int64(n), int64(n), int64(n), api.Set(n)
		j.Spec.User, j.Spec.Account, j.Spec.Nodes, j.Spec.Cores, j.Spec.Limit, j.Spec.Deps = "x", "x", n, n, int64(n), of(api.Dep{Kind: 9, Id: n})
		return j
	}
	for a := range 256 {
		for _, n := range of(-1, 0, 1, maxId) {
			j := other(in(api.JobState(a), waits(2, "p0", "q1")), n)
			for b := range api.JobState(10) {
				checkAhead(t, "a lesser Prio", c, j, other(in(b, waits(1, "p0", "q0")), -n), true, false)
				checkAhead(t, "a greater Prio", c, j, other(in(b, waits(3, "p1", "q0")), -n), false, true)
				checkAhead(t, "a lesser id", c, j, other(in(b, waits(1, "p0", "q1")), -n), false, true)
				checkAhead(t, "a greater id", c, j, other(in(b, waits(3, "p0", "q1")), -n), true, false)
			}
		}
	}
}

// P21.2: any two jobs of any config, held against plain words, and against Prio.
func TestAheadOfAny(t *testing.T) {
	d := dice(2)
	byPrio, byId, none := 0, 0, 0
	for range 30000 {
		c, right := d.anyConfig()
		jobs := d.jobs(c, 2)
		a, b := jobs[0], jobs[1]
		checkAhead(t, "any", c, a, b, aheadOf(c, right, a, b), aheadOf(c, right, b, a))
		if t.Failed() {
			t.Fatalf("%v", c)
		}
		n, _ := order.Prio(c, a.Spec)
		m, _ := order.Prio(c, b.Spec)
		is := order.Ahead(c, a, b)
		switch {
		case n != m:
			byPrio++
			if is != (n > m) {
				t.Fatalf("%v: %v of %d, %v of %d: %v", c, a, n, b, m, is)
			}
		case a.Id != b.Id:
			byId++
			if is != (a.Id < b.Id) {
				t.Fatalf("%v: %v, %v, both of %d: %v", c, a, b, n, is)
			}
		default:
			none++
			if is {
				t.Fatalf("%v: %v, %v, both of %d: ahead", c, a, b, n)
			}
		}
	}
	if byPrio < 5000 || byId < 2000 || none < 1000 {
		t.Errorf("the test is wrong: %d by Prio, %d by id, %d by none", byPrio, byId, none)
	}
}
