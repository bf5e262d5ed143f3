package deps_test

import (
	"slices"
	"testing"

	"muster/api"
	"muster/deps"
	"muster/job"
)

// made is a pending job of that id, which is right, and waits for l.
func made(id int, l ...api.Dep) api.Job {
	return job.Make(id, api.Spec{User: "ann", Nodes: 1, Cores: 1, Limit: 10, Deps: l}, 0)
}

// further are all that layer 18 lets become of j by one call.
func further(j api.Job) []api.Job {
	var l []api.Job
	if next, e := job.Begin(j, 1, 5); e == api.OK {
		l = append(l, next)
	}
	for s := range 256 {
		if next, e := job.Finish(j, api.JobState(s), 0, 8); e == api.OK {
			l = append(l, next)
		}
	}
	return l
}

// lives are all ways of a job, from pending on to where it is over or not.
func lives(id int) []api.Job {
	l := of(made(id))
	for i := 0; i < len(l); i++ {
		l = append(l, further(l[i])...)
	}
	return l
}

// put is jobs with j in its place, in a new list.
func put(jobs []api.Job, place int, j api.Job) []api.Job {
	jobs = slices.Clone(jobs)
	jobs[place] = j
	return jobs
}

// goesOn holds what is told of l ahead of a change against what is told behind it.
func goesOn(t *testing.T, l []api.Dep, ahead, behind []api.Job) {
	t.Helper()
	if deps.Holds(l, ahead) && !deps.Holds(l, behind) {
		t.Fatalf("%v held with %v, and does not with %v", l, ahead, behind)
	}
	if deps.Never(l, ahead) && !deps.Never(l, behind) {
		t.Fatalf("%v never would with %v, and may with %v", l, ahead, behind)
	}
	if deps.Holds(l, behind) && deps.Never(l, behind) {
		t.Fatalf("%v of %v: both", l, behind)
	}
}

// P20.3: the ways that the tests take are all that layer 18 tells.
func TestWaysOfJobs(t *testing.T) {
	for from, want := range map[api.JobState][]api.JobState{api.Pending: {2, 6, 8}, api.Running: {3, 4, 5, 6, 7}, 3: nil, 4: nil, 5: nil, 6: nil, 7: nil, 8: nil} {
		for _, j := range lives(1) {
			if j.State != from {
				continue
			}
			var got []api.JobState
			for _, next := range further(j) {
				got = append(got, next.State)
			}
			if !slices.Equal(got, want) {
				t.Errorf("the test is wrong: from %d to %v, not %v", from, got, want)
			}
		}
	}
	if n := len(lives(1)); n != 9 {
		t.Errorf("the test is wrong: %d jobs", n)
	}
}

// P20.3: never both, of any list and jobs, right or not.
func TestNeverBoth(t *testing.T) {
	d := dice(4)
	one, other := 0, 0
	for range 200000 {
		count := 1 + d.below(6)
		l, jobs := d.list(count), d.jobs(count)
		holds, never := deps.Holds(l, jobs), deps.Never(l, jobs)
		switch {
		case holds && never:
			t.Fatalf("%v of %v: both", l, jobs)
		case holds:
			one++
		case never:
			other++
		}
	}
	if one < 5000 || other < 5000 {
		t.Errorf("the test is wrong: %d hold, %d never will", one, other)
	}
}

// P20.3: all lists of up to 3 go on as they should, with all states of two jobs, and each change of one of them.
func TestEachChange(t *testing.T) {
	var out []api.Dep
	for kind := range api.DepKind(5) {
		for id := 1; id <= 3; id++ {
			out = append(out, api.Dep{Kind: kind, Id: id})
		}
	}
	changes := 0
	for _, a := range lives(1) {
		for _, b := range lives(2) {
			ahead := of(a, b)
			for place := range ahead {
				for _, next := range further(ahead[place]) {
					behind := put(ahead, place, next)
					changes++
					eachList(out, 3, func(l []api.Dep) { goesOn(t, l, ahead, behind) })
				}
			}
		}
	}
	if changes != 2*9*(3+5) {
		t.Errorf("the test is wrong: %d changes", changes)
	}
}

// P20.3: a dependency that does not hold, and of which it is not told that it never will, may still: each job that is not over can end so that it holds.
func TestWhatWaitsMayStill(t *testing.T) {
	for _, j := range of(lives(1)[0], lives(1)[1]) {
		for _, d := range of(anyway(1), ok(1), fail(1)) {
			if deps.Holds(of(d), of(j)) || deps.Never(of(d), of(j)) {
				t.Errorf("%v of %v: it does not wait", d, j)
			}
			hold, lost := 0, 0
			for _, next := range append(further(j), further(further(j)[0])...) {
				if deps.Holds(of(d), of(next)) {
					hold++
				}
				if deps.Never(of(d), of(next)) {
					lost++
				}
			}
			if hold == 0 || lost == 0 && d.Kind != api.DepAny || lost > 0 && d.Kind == api.DepAny {
				t.Errorf("%v of %v: with %d it holds, with %d it never will", d, j, hold, lost)
			}
		}
	}
}

// step makes one of the jobs go on, if it can.
func (d *dice) step(jobs []api.Job) []api.Job {
	place := d.below(len(jobs))
	ways := further(jobs[place])
	if len(ways) == 0 {
		return jobs
	}
	if d.below(2) == 0 { // so that not too few begin
		return put(jobs, place, ways[0])
	}
	return put(jobs, place, one(d, ways))
}

// P20.3: any lists, while any jobs go on till they are all over; then each list holds, or never will.
func TestLongLives(t *testing.T) {
	d := dice(5)
	told := map[string]int{}
	for range 300 {
		var jobs []api.Job
		count := 1 + d.below(12)
		for id := 1; id <= count; id++ {
			jobs = append(jobs, made(id))
		}
		lists := make([][]api.Dep, 40)
		for i := range lists {
			lists[i] = d.list(count)
		}
		for slices.ContainsFunc(jobs, func(j api.Job) bool { return !job.Over(j.State) }) {
			next := d.step(jobs)
			for _, l := range lists {
				goesOn(t, l, jobs, next)
			}
			jobs = next
		}
		for _, l := range lists {
			holds, never := deps.Holds(l, jobs), deps.Never(l, jobs)
			if holds == never {
				t.Fatalf("%v of %v, which are over: Holds %v, Never %v", l, jobs, holds, never)
			}
			if holds && len(l) > 0 {
				told["holds"]++
			}
			if never {
				told["never"]++
			}
		}
	}
	if told["holds"] < 1000 || told["never"] < 1000 {
		t.Errorf("the test is wrong: %v", told)
	}
}

// P20.3: jobs that come anew, with ids above all others, change nothing of what a right list of an earlier one is told.
func TestNewJobsChangeNothing(t *testing.T) {
	d := dice(6)
	asked := 0
	for range 30000 {
		count := 1 + d.below(8)
		l, jobs := d.list(count), d.jobs(count)
		if deps.Right(l, count+1) != api.OK {
			continue
		}
		asked++
		more := slices.Concat(jobs, of(in(count+1, d.state()), in(count+2, d.state())))
		if deps.Holds(l, jobs) != deps.Holds(l, more) || deps.Never(l, jobs) != deps.Never(l, more) {
			t.Fatalf("%v of %v, and with two new ones", l, jobs)
		}
	}
	if asked < 5000 {
		t.Errorf("the test is wrong: %d are asked", asked)
	}
}

// P20.2: a list holds just if each of its dependencies holds alone, and never will just if one of them alone never will; so do two lists, put together.
func TestTogetherAsAlone(t *testing.T) {
	d := dice(7)
	parted := 0
	for range 100000 {
		count := 1 + d.below(8)
		l, m, jobs := d.list(count), d.list(count), d.jobs(count)
		holds, never := true, false
		for _, x := range l {
			holds = holds && deps.Holds(of(x), jobs)
			never = never || deps.Never(of(x), jobs)
		}
		if deps.Holds(l, jobs) != holds || deps.Never(l, jobs) != never {
			t.Fatalf("%v of %v: alone %v, %v", l, jobs, holds, never)
		}
		both := slices.Concat(l, m)
		if deps.Holds(both, jobs) != (holds && deps.Holds(m, jobs)) || deps.Never(both, jobs) != (never || deps.Never(m, jobs)) {
			t.Fatalf("%v and %v of %v", l, m, jobs)
		}
		if len(l) > 0 && len(m) > 0 && holds != deps.Holds(m, jobs) {
			parted++
		}
	}
	if parted < 5000 {
		t.Errorf("the test is wrong: of %d pairs one holds alone", parted)
	}
}

// P20.2: the order of a list, and that of jobs with unlike ids, change nothing.
func TestOrderChangesNothing(t *testing.T) {
	d := dice(8)
	for range 50000 {
		count := 1 + d.below(8)
		l := d.list(count)
		var jobs []api.Job
		for id := range count {
			jobs = append(jobs, in(id, d.state()))
		}
		holds, never := deps.Holds(l, jobs), deps.Never(l, jobs)
		for range 4 {
			l, jobs = turned(&d, l), turned(&d, jobs)
			if deps.Holds(l, jobs) != holds || deps.Never(l, jobs) != never {
				t.Fatalf("%v of %v: not %v, %v", l, jobs, holds, never)
			}
		}
	}
}

// turned is l in some other order, in a new list.
func turned[T any](d *dice, l []T) []T {
	l = slices.Clone(l)
	for i := range l {
		k := d.below(i + 1)
		l[i], l[k] = l[k], l[i]
	}
	return l
}

// isCircle tells whether a way along dependencies, begun at some job, never ends: it is longer than there are jobs.
func isCircle(jobs []api.Job) bool {
	at := map[int]bool{}
	for _, j := range jobs {
		at[j.Id] = true
	}
	for range jobs {
		next := map[int]bool{}
		for _, j := range jobs {
			for _, x := range j.Spec.Deps {
				if at[j.Id] {
					next[x.Id] = true
				}
			}
		}
		at = next
	}
	for _, j := range jobs {
		if at[j.Id] {
			return true
		}
	}
	return false
}

// areRight tells whether each job's dependencies are right below its own id.
func areRight(jobs []api.Job) bool {
	return !slices.ContainsFunc(jobs, func(j api.Job) bool { return deps.Right(j.Spec.Deps, j.Id) != api.OK })
}

// P20.3: of all ways in which three jobs wait for up to two, none that is right has a circle.
func TestNoCircleOfThree(t *testing.T) {
	var lists [][]api.Dep
	eachList(of(ok(1), anyway(2), fail(3)), 2, func(l []api.Dep) { lists = append(lists, l) })
	right, circles := 0, 0
	for _, a := range lists {
		for _, b := range lists {
			for _, c := range lists {
				jobs := of(made(1, a...), made(2, b...), made(3, c...))
				is := isCircle(jobs)
				if is && areRight(jobs) {
					t.Fatalf("%v wait for one another", jobs)
				}
				if is {
					circles++
				} else if areRight(jobs) {
					right++
				}
			}
		}
	}
	// Job 1 may wait for none, job 2 for none or 1, job 3 for none, 1, 2, or both in two orders.
	if right != 1*2*5 || circles < 1000 {
		t.Errorf("%d are right, %d have circles", right, circles)
	}
}

// runAll lets jobs go on by what they wait for, as often as one can, and tells what they are then.
func (d *dice) runAll(jobs []api.Job) []api.Job {
	for gone := true; gone; {
		gone = false
		for place, j := range jobs {
			next, e := j, api.OK
			switch {
			case job.Over(j.State):
				continue
			case j.State == api.Running:
				next, e = job.Finish(j, one(d, of(api.Completed, api.Failed, api.Timeout)), 0, 8)
			case deps.Never(j.Spec.Deps, jobs):
				next, e = job.Finish(j, api.Never, 0, 8)
			case deps.Holds(j.Spec.Deps, jobs):
				next, e = job.Begin(j, 1, 5)
			default:
				continue
			}
			if e != api.OK {
				panic("the test is wrong: a job can't go on")
			}
			jobs, gone = put(jobs, place, next), true
		}
	}
	return jobs
}

// P20.3: jobs with right dependencies all end, for they wait in no circle; what is over keeps what it waited for, held or not.
func TestAllEnd(t *testing.T) {
	d := dice(9)
	ran, lost := 0, 0
	for range 400 {
		var jobs []api.Job
		count := 1 + d.below(maxJobs)
		for id := 1; id <= count; id++ {
			l := d.list(max(1, id-1))
			if deps.Right(l, id) != api.OK {
				l = nil
			}
			jobs = append(jobs, made(id, l...))
		}
		if isCircle(jobs) || !areRight(jobs) {
			t.Fatalf("%v", jobs)
		}
		jobs = d.runAll(jobs)
		for _, j := range jobs {
			holds, never := deps.Holds(j.Spec.Deps, jobs), deps.Never(j.Spec.Deps, jobs)
			if !job.Over(j.State) || never != (j.State == api.Never) || holds == never {
				t.Fatalf("%v of %v: Holds %v, Never %v", j, jobs, holds, never)
			}
			if never {
				lost++
			} else if len(j.Spec.Deps) > 0 {
				ran++
			}
		}
	}
	if ran < 2000 || lost < 2000 {
		t.Errorf("the test is wrong: %d ran, %d never did", ran, lost)
	}
}

// P20.3: what Right refuses would wait for ever: a job for itself, two for one another, one for one to come.
func TestCirclesStand(t *testing.T) {
	d := dice(10)
	for name, jobs := range map[string][]api.Job{
		"itself":          of(made(1, ok(1))),
		"one another":     of(made(1, anyway(2)), made(2, ok(1))),
		"three in a ring": of(made(1, fail(3)), made(2, anyway(1)), made(3, ok(2))),
	} {
		for _, j := range d.runAll(jobs) {
			if j.State != api.Pending {
				t.Errorf("%s: %v goes on", name, j)
			}
		}
		if !isCircle(jobs) || areRight(jobs) || deps.Right(jobs[0].Spec.Deps, 1) != api.ErrSelf {
			t.Errorf("%s: %v are right", name, jobs)
		}
	}
}
