package deps_test

import (
	"math"
	"reflect"
	"slices"
	"sync"
	"testing"

	"muster/api"
	"muster/deps"
)

// strange is a dependency that makes any list wrong, and that never will hold.
var strange = api.Dep{Kind: 77, Id: -77}

// roomy is l with others ahead of it and behind it, in its spare room.
func roomy[T any](l []T, other T) (whole, part []T) {
	whole = append(whole, other, other, other)
	whole = append(whole, l...)
	whole = append(whole, other, other, other)
	return whole, whole[3 : 3+len(l)]
}

// spoil puts another one into each place of l, and into its spare room.
func spoil[T any](l []T, other T) {
	l = l[:cap(l)]
	for i := range l {
		l[i] = other
	}
}

// copied is l with all that it reaches in memory of its own.
func copied(l []api.Job) []api.Job {
	l = slices.Clone(l)
	for i := range l {
		l[i].Spec.Deps = slices.Clone(l[i].Spec.Deps)
	}
	return l
}

// R3: what is handed in is not changed, nor its spare room, nor what stands ahead of it, nor what jobs wait for; be it answered or refused.
func TestHandedInIsLeft(t *testing.T) {
	d := dice(11)
	told := map[api.Errno]int{}
	for range 20000 {
		count := 1 + d.below(6)
		wholeList, l := roomy(d.list(count), strange)
		wholeJobs, jobs := roomy(d.jobs(count), in(1, api.Completed))
		for i := range jobs {
			_, jobs[i].Spec.Deps = roomy(jobs[i].Spec.Deps, strange)
		}
		listBefore, jobsBefore := slices.Clone(wholeList), copied(wholeJobs)
		for _, next := range of(math.MinInt, 0, 1, count, count+1, math.MaxInt) {
			told[deps.Right(l, next)]++
		}
		for range 2 {
			deps.Holds(l, jobs)
			deps.Never(l, jobs)
		}
		if !slices.Equal(wholeList, listBefore) {
			t.Fatalf("%v was %v", wholeList, listBefore)
		}
		if !reflect.DeepEqual(wholeJobs, jobsBefore) {
			t.Fatalf("%v was %v", wholeJobs, jobsBefore)
		}
		for _, j := range jobs {
			if room := j.Spec.Deps[:len(j.Spec.Deps)+3]; !slices.Equal(room[len(j.Spec.Deps):], of(strange, strange, strange)) {
				t.Fatalf("%v: its spare room is %v", j, room)
			}
		}
	}
	for _, err := range of(api.OK, api.ErrLong, api.ErrArg, api.ErrSelf, api.ErrTwice) {
		if told[err] < 500 {
			t.Errorf("the test is wrong: %d is told %d times", err, told[err])
		}
	}
}

// R3: what stands in the spare room of a list counts for nothing.
func TestSpareRoomIsNotAsked(t *testing.T) {
	d := dice(12)
	for range 20000 {
		count := 1 + d.below(6)
		l, jobs := d.list(count), d.jobs(count)
		_, roomyList := roomy(l, strange)
		_, roomyJobs := roomy(jobs, in(count+1, api.Completed))
		if deps.Right(l, count+1) != deps.Right(roomyList, count+1) || deps.Holds(l, jobs) != deps.Holds(roomyList, roomyJobs) || deps.Never(l, jobs) != deps.Never(roomyList, roomyJobs) {
			t.Fatalf("%v of %v", l, jobs)
		}
	}
}

// R3: what was handed in is not kept: whatever becomes of it, later calls tell just what they are handed then.
func TestHandedInIsNotKept(t *testing.T) {
	for range 3 {
		l, jobs := of(ok(1), fail(2)), of(in(1, api.Completed), in(2, api.Failed))
		checkRight(t, "at first", l, 3, api.OK)
		checkAsked(t, "at first", l, jobs, true, false)
		spoil(jobs, in(1, api.Running))
		checkAsked(t, "with other jobs", l, jobs, false, true)
		checkAsked(t, "with jobs as they were", l, of(in(1, api.Completed), in(2, api.Failed)), true, false)
		jobs[1] = in(2, api.Pending)
		checkAsked(t, "with others once more", l, jobs, false, false)
		spoil(l, ok(3))
		checkRight(t, "another list", l, 3, api.ErrSelf)
		checkRight(t, "another list, next is above it", l, 4, api.ErrTwice)
		checkAsked(t, "another list", l, jobs, false, true)
		checkRight(t, "a list as it was", of(ok(1), fail(2)), 3, api.OK)
	}
}

// R4: an answer hangs on the arguments alone, not on what was asked ahead of it: the same questions, in any order.
func TestEarlierCallsChangeNothing(t *testing.T) {
	d := dice(13)
	type question struct {
		l    []api.Dep
		next int
		jobs []api.Job
	}
	var all []question
	for range 500 {
		count := 1 + d.below(6)
		all = append(all, question{d.list(count), one(&d, of(count, count+1)), d.jobs(count)})
	}
	for range 10 {
		for _, q := range turned(&d, all) {
			holds, never := askedOf(q.l, q.jobs)
			if e := deps.Right(q.l, q.next); e != rightOf(q.l, q.next) || deps.Holds(q.l, q.jobs) != holds || deps.Never(q.l, q.jobs) != never {
				t.Fatalf("%v: %d", q, e)
			}
		}
	}
}

// R4: many callers at one time, with the same lists, are told the same as one.
func TestManyCallersAtOnce(t *testing.T) {
	d := dice(14)
	shared, jobs := d.list(6), d.jobs(6)
	var group sync.WaitGroup
	for k := range 8 {
		group.Go(func() {
			d := dice(k)
			for range 3000 {
				l := one(&d, of(shared, d.list(6)))
				next := d.below(9)
				holds, never := askedOf(l, jobs)
				if e := deps.Right(l, next); e != rightOf(l, next) || deps.Holds(l, jobs) != holds || deps.Never(l, jobs) != never {
					t.Errorf("%v below %d, of %v: %d", l, next, jobs, e)
					return
				}
			}
		})
	}
	group.Wait()
}

// R6: no list and an empty one are the same, of dependencies and of jobs.
func TestEmptyAndNone(t *testing.T) {
	for _, l := range of(nil, of[api.Dep](), of(strange)[:0]) {
		for _, jobs := range of(nil, of[api.Job](), of(in(1, 3))[:0]) {
			checkAsked(t, "nothing of nothing", l, jobs, true, false)
			checkAsked(t, "one of nothing", of(ok(1)), jobs, false, true)
		}
		checkAsked(t, "nothing of one", l, of(in(1, 2)), true, false)
		checkRight(t, "nothing", l, 1, api.OK)
	}
}

// R1: long lists are answered, too.
func TestLongArgumentsEnd(t *testing.T) {
	long := slices.Repeat(of(in(2, api.Running)), 1<<18)
	long[len(long)-1] = in(1, api.Completed)
	checkAsked(t, "long jobs, it holds", of(ok(1), anyway(1)), long, true, false)
	checkAsked(t, "long jobs, it waits", of(ok(1), ok(2)), long, false, false)
	checkAsked(t, "long jobs, it never will", of(ok(1), ok(3)), long, false, true)
	list := slices.Repeat(of(fail(1)), 1<<20)
	list[len(list)-1] = ok(1)
	checkAsked(t, "a long list", list, of(in(1, api.Failed)), false, true)
	checkRight(t, "a long list", list, 2, api.ErrLong)
	checkAsked(t, "both are long", list[:1<<10], long[len(long)-1<<10:], false, true)
}
