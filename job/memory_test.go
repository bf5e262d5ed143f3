package job_test

import (
	"cmp"
	"reflect"
	"runtime"
	"slices"
	"strings"
	"sync"
	"testing"
	"unsafe"

	"muster/api"
	"muster/job"
)

// strange is a dependency that no job of the tests has.
var strange = api.Dep{Kind: 77, Id: -77}

// roomy is l with others ahead of it and behind it, in its spare room.
func roomy(l []api.Dep) (whole, part []api.Dep) {
	whole = append(whole, strange, strange, strange)
	whole = append(whole, l...)
	whole = append(whole, strange, strange, strange)
	return whole, whole[3 : 3+len(l)]
}

// spoil puts another one into each place of l, and into its spare room.
func spoil(l []api.Dep) {
	l = l[:cap(l)]
	for i := range l {
		l[i] = strange
	}
}

// askAll makes all calls of j, with arguments that are answered and with some that are refused.
func askAll(j api.Job) {
	job.Make(j.Id, j.Spec, j.Submit)
	job.Right(j)
	job.End(j)
	for _, now := range of(-1, j.Submit, j.Start, j.End, maxTime, maxTime+1) {
		for _, on := range of(0, j.On, 3, every) {
			job.Begin(j, on, now)
		}
		for s := range api.JobState(10) {
			job.Finish(j, s, 0, now)
			job.Finish(j, s, 5, now)
		}
	}
}

// R3: what is handed in is not changed, nor its spare room, nor what stands ahead of it.
func TestHandedInIsLeft(t *testing.T) {
	d := dice(12)
	for range 3000 {
		j := d.job(one(&d, kinds()))
		if d.below(2) == 0 {
			d.bend(&j)
		}
		j.Spec.Nodes = one(&d, of(j.Spec.Nodes, 2, 4))
		whole, part := roomy(j.Spec.Deps)
		before := slices.Clone(whole)
		j.Spec.Deps = part
		askAll(j)
		if !slices.Equal(whole, before) {
			t.Fatalf("%v: %v was %v", j, whole, before)
		}
	}
}

// R3: Find leaves its jobs as they are, and their spare room.
func TestFindLeavesItsJobs(t *testing.T) {
	make3 := func() []api.Job {
		l := append(make([]api.Job, 0, 9), kindOf("pending").job(), kindOf("running").job(), kindOf("pending").job())
		l[1].Id = 8
		copy(l[:9][3:], ids(7, 8, 9))
		return l
	}
	l, before := make3(), make3()
	for id := -1; id < 12; id++ {
		job.Find(l, id)
	}
	if !reflect.DeepEqual(l[:9], before[:9]) {
		t.Errorf("%v was %v", l[:9], before[:9])
	}
	if place, found := job.Find(l, 9); place != 0 || found {
		t.Errorf("found in its spare room: %d, %v", place, found)
	}
}

// told is what the calls tell of one spec.
type told struct{ made, begun, finished, cancelled, never api.Job }

// jobs are all of them.
func (x told) jobs() []api.Job { return of(x.made, x.begun, x.finished, x.cancelled, x.never) }

// tell asks all calls that tell jobs, each of what is handed to it, a pending one and a running one.
func tell(t *testing.T, s api.Spec, pending, running api.Job) told {
	t.Helper()
	x := told{made: job.Make(7, s, 5)}
	var e [4]api.Errno
	x.begun, e[0] = job.Begin(pending, 3, 7)
	x.finished, e[1] = job.Finish(running, api.Failed, 9, 9)
	x.cancelled, e[2] = job.Finish(pending, api.Cancelled, 0, 9)
	x.never, e[3] = job.Finish(pending, api.Never, 0, 9)
	if e != [4]api.Errno{} {
		t.Fatalf("%v", e)
	}
	return x
}

// check holds what was told against what is to be told.
func (x told) check(t *testing.T, what string) {
	t.Helper()
	made := api.Job{Id: 7, Spec: spec(), State: 1, Submit: 5}
	if !same(x.made, made) || !same(x.begun, kindOf("running").job()) || !same(x.finished, kindOf("failed").job()) || !same(x.cancelled, kindOf("cancelled without nodes").job()) || !same(x.never, kindOf("never").job()) {
		t.Fatalf("%s: %v", what, x)
	}
}

// R3: what was handed in is not kept: whatever becomes of it, earlier answers and later calls tell the same.
func TestHandedInIsNotKept(t *testing.T) {
	for range 3 {
		s, pending, running := spec(), kindOf("pending").job(), kindOf("running").job()
		first := tell(t, s, pending, running)
		first.check(t, "at first")
		spoil(s.Deps)
		spoil(pending.Spec.Deps)
		spoil(running.Spec.Deps)
		first.check(t, "what was handed in is spoilt")
		tell(t, spec(), kindOf("pending").job(), kindOf("running").job()).check(t, "again")
		for _, j := range tell(t, s, pending, running).jobs() {
			if !slices.Equal(j.Spec.Deps, of(strange, strange)) {
				t.Errorf("it is another now: %v", j)
			}
		}
	}
}

// R3: what was told is the caller's own: changed, it changes nothing else that was told, nor what was handed in.
func TestToldIsNotKept(t *testing.T) {
	s, pending, running := spec(), kindOf("pending").job(), kindOf("running").job()
	for range 3 {
		a, b := tell(t, s, pending, running), tell(t, s, pending, running)
		for _, j := range a.jobs() {
			spoil(j.Spec.Deps)
		}
		b.check(t, "what was told is spoilt")
		if !reflect.DeepEqual(s, spec()) || !same(pending, kindOf("pending").job()) || !same(running, kindOf("running").job()) {
			t.Fatalf("what was handed in is %v, %v, %v", s, pending, running)
		}
	}
}

// reach is where a list's memory begins and ends, its spare room too.
type reach struct{ from, to uintptr }

func reachOf(l []api.Dep) reach {
	from := uintptr(unsafe.Pointer(unsafe.SliceData(l)))
	return reach{from, from + uintptr(cap(l))*unsafe.Sizeof(api.Dep{})}
}

// R3: no two answers share memory, nor any with what was handed in, spare room too; through a job's whole life.
func TestAnswersAreApart(t *testing.T) {
	var kept [][]api.Dep // so that no memory is let go, and used again
	note := func(j api.Job, e api.Errno) {
		if e != api.OK {
			t.Fatalf("%v, %d", j, e)
		}
		if cap(j.Spec.Deps) > 0 {
			kept = append(kept, j.Spec.Deps)
		}
	}
	for count := range 10 {
		for _, spare := range of(0, 1, 50) {
			s := spec()
			s.Deps = make([]api.Dep, count, count+spare)
			for range 3 {
				made := job.Make(7, s, 5)
				note(made, api.OK)
				begun, e := job.Begin(made, 3, 7)
				note(begun, e)
				for _, state := range follow()[api.Running] {
					note(job.Finish(begun, state, 0, 9))
				}
				for _, state := range follow()[api.Pending] {
					note(job.Finish(made, state, 0, 9))
				}
			}
			kept = append(kept, s.Deps)
		}
	}
	var all []reach
	for _, l := range kept {
		if cap(l) > 0 {
			all = append(all, reachOf(l))
		}
	}
	slices.SortFunc(all, func(a, b reach) int { return cmp.Compare(a.from, b.from) })
	for i := 1; i < len(all); i++ {
		if all[i-1].to > all[i].from {
			t.Fatalf("two lists share memory: %v, %v", all[i-1], all[i])
		}
	}
	if len(all) < 500 {
		t.Errorf("the test is wrong: %d lists", len(all))
	}
	runtime.KeepAlive(kept)
}

// R6: no dependencies and an empty list of them are the same; so are no jobs and none.
func TestEmptyAndNone(t *testing.T) {
	for _, deps := range of(nil, of[api.Dep](), make([]api.Dep, 0, 5)) {
		s := spec()
		s.Deps = deps
		made := job.Make(7, s, 5)
		begun, e := job.Begin(made, 3, 7)
		finished, f := job.Finish(begun, api.Failed, 9, 9)
		if !job.Right(made) || e != api.OK || f != api.OK || len(made.Spec.Deps)+len(begun.Spec.Deps)+len(finished.Spec.Deps) > 0 || cap(deps) > 0 && cap(finished.Spec.Deps) > 0 {
			t.Errorf("%v: %v, %v, %d, %v, %d", deps, made, begun, e, finished, f)
		}
	}
	for _, l := range of(nil, of[api.Job]()) {
		if place, found := job.Find(l, 0); place != 0 || found {
			t.Errorf("%v: %d, %v", l, place, found)
		}
	}
}

// R4: answers hang on nothing but the arguments: many callers of one job at one time are told the same as one.
func TestManyCallersAtOnce(t *testing.T) {
	pending, running := kindOf("pending").job(), kindOf("running").job()
	l := ids(4, 7, 9, 7)
	var group sync.WaitGroup
	for k := range 8 {
		group.Add(1)
		go func() {
			defer group.Done()
			d := dice(k)
			for range 2000 {
				j := one(&d, of(pending, running))
				on, s, exit, now := d.nodes(1+d.below(3)), api.JobState(d.below(10)), d.below(3), int64(d.below(12))
				begun, e := job.Begin(j, on, now)
				wantBegun, wantE := beginOf(j, on, now)
				finished, f := job.Finish(j, s, exit, now)
				wantFinished, wantF := finishOf(j, s, exit, now)
				place, found := job.Find(l, int(now))
				wantPlace, want := findOf(l, int(now))
				if e != wantE || f != wantF || !same(begun, wantBegun) || !same(finished, wantFinished) || place != wantPlace || found != want || job.End(j) != endOf(j) || !job.Right(j) {
					t.Errorf("%v: %v, %d, %v, %d, %d, %v", j, begun, e, finished, f, place, found)
					return
				}
			}
		}()
	}
	group.Wait()
}

// R1: long lists and long texts are answered, too.
func TestLongArgumentsEnd(t *testing.T) {
	s := spec()
	s.User, s.Account, s.Qos, s.Part = strings.Repeat("a", 1<<20), strings.Repeat("b", 1<<20), strings.Repeat("c", 1<<20), strings.Repeat("d", 1<<20)
	s.Deps = make([]api.Dep, 1<<20)
	s.Deps[1<<20-1] = strange
	made := job.Make(7, s, 5)
	begun, e := job.Begin(made, 3, 7)
	finished, f := job.Finish(begun, api.Timeout, 0, 17)
	if e != api.OK || f != api.OK || !job.Right(finished) || !reflect.DeepEqual(finished.Spec, s) || !reflect.DeepEqual(made.Spec, s) {
		t.Errorf("%d, %d", e, f)
	}
}
