package array_test

import (
	"cmp"
	"reflect"
	"runtime"
	"slices"
	"strings"
	"sync"
	"testing"
	"unsafe"

	"muster/api"
	"muster/array"
)

// strange is a dependency that no job of the tests has.
var strange = api.Dep{Kind: 77, Id: -77}

// roomy is l with others ahead of it and behind it, in its spare room.
func roomy[T any](l []T, other T) (whole, part []T) {
	whole = append(whole, other, other, other)
	whole = append(whole, l...)
	whole = append(whole, other, other, other)
	return whole, whole[3 : 3+len(l)]
}

// spoil puts another one into each place of l, and into its spare room.
func spoil[T any](l []T, other T) {
	l = l[:cap(l)]
	for i := range l {
		l[i] = other
	}
}

// R3: what is handed in is not changed, nor its spare room, nor what stands ahead of it; be it answered or refused.
func TestHandedInIsLeft(t *testing.T) {
	d := dice(7)
	for range 5000 {
		l, s := d.list(), d.spec()
		if d.below(2) == 0 {
			l = d.bent(l)
		}
		wholeList, list := roomy(l, -7)
		wholeDeps, deps := roomy(s.Deps, strange)
		s.Deps = deps
		listBefore, depsBefore := slices.Clone(wholeList), slices.Clone(wholeDeps)
		array.Print(list)
		for _, id := range of(0, 1, 7, maxId, maxId+1) {
			for _, now := range of(-1, 0, 5, maxTime, maxTime+1) {
				array.Expand(id, list, s, now)
				array.Expand(id, nil, s, now)
			}
		}
		if !slices.Equal(wholeList, listBefore) || !slices.Equal(wholeDeps, depsBefore) {
			t.Fatalf("%v was %v, %v was %v", wholeList, listBefore, wholeDeps, depsBefore)
		}
	}
}

// told is what the calls tell of a text, and of a list and a spec.
type told struct {
	list       []int
	jobs, lone []api.Job
}

func tell(t *testing.T, l []int, s api.Spec) told {
	t.Helper()
	var x told
	var e [3]api.Errno
	x.list, e[0] = array.Parse("0-4:2,9")
	x.jobs, e[1] = array.Expand(7, l, s, 5)
	x.lone, e[2] = array.Expand(7, nil, s, 5)
	if e != [3]api.Errno{} {
		t.Fatalf("%v", e)
	}
	return x
}

// check holds what was told against what is to be told of 0-4:2,9 and spec.
func (x told) check(t *testing.T, what string) {
	t.Helper()
	jobs, _ := expandOf(7, of(0, 2, 4, 9), spec(), 5)
	lone, _ := expandOf(7, nil, spec(), 5)
	if !slices.Equal(x.list, of(0, 2, 4, 9)) || !same(x.jobs, jobs) || !same(x.lone, lone) {
		t.Fatalf("%s: %v", what, x)
	}
}

// R3: what was handed in is not kept: whatever becomes of it, earlier answers and later calls tell the same.
func TestHandedInIsNotKept(t *testing.T) {
	for range 3 {
		l, s := of(0, 2, 4, 9), spec()
		first := tell(t, l, s)
		first.check(t, "at first")
		spoil(l, 5)
		spoil(s.Deps, strange)
		first.check(t, "what was handed in is spoilt")
		tell(t, of(0, 2, 4, 9), spec()).check(t, "again")
		if _, e := array.Print(l); e != api.ErrArg {
			t.Errorf("it is another now: %d", e)
		}
		if _, e := array.Expand(7, l, s, 5); e != api.ErrArg {
			t.Errorf("it is another now: %d", e)
		}
	}
}

// R3: what was told is the caller's own: changed, it changes nothing else that was told, nor what was handed in.
func TestToldIsNotKept(t *testing.T) {
	l, s := of(0, 2, 4, 9), spec()
	for range 3 {
		a, b := tell(t, l, s), tell(t, l, s)
		spoil(a.list, 5)
		for _, j := range append(a.jobs, a.lone...) {
			spoil(j.Spec.Deps, strange)
		}
		spoil(a.jobs, api.Job{Id: -7})
		spoil(a.lone, api.Job{Id: -7})
		b.check(t, "what was told is spoilt")
		if !slices.Equal(l, of(0, 2, 4, 9)) || !reflect.DeepEqual(s, spec()) {
			t.Fatalf("what was handed in is %v, %v", l, s)
		}
	}
}

// R3: the jobs of one array share no memory: the dependencies of one, spoilt with their spare room, leave those of all others.
func TestJobsAreApart(t *testing.T) {
	for place := range 4 {
		jobs, e := array.Expand(7, of(0, 2, 4, 9), spec(), 5)
		if e != api.OK {
			t.Fatal(e)
		}
		spoil(jobs[place].Spec.Deps, strange)
		_ = append(jobs[place].Spec.Deps, strange, strange)
		for other, j := range jobs {
			if other != place && !slices.Equal(j.Spec.Deps, spec().Deps) {
				t.Errorf("job %d is spoilt with job %d: %v", other, place, j.Spec.Deps)
			}
		}
	}
}

// reach is where a list's memory begins and ends, its spare room too.
type reach struct{ from, to uintptr }

func reachOf[T any](l []T) reach {
	var element T
	from := uintptr(unsafe.Pointer(unsafe.SliceData(l)))
	return reach{from, from + uintptr(cap(l))*unsafe.Sizeof(element)}
}

// R3: no two lists of answers share memory, nor any with what was handed in, spare room too.
func TestAnswersAreApart(t *testing.T) {
	var all []reach
	var kept []any // so that no memory is let go, and used again
	note := func(l any, r reach) {
		if r.to > r.from {
			kept, all = append(kept, l), append(all, r)
		}
	}
	for _, count := range of(1, 2, 5, 31, 32) {
		for _, spare := range of(0, 1, 50) {
			l := append(make([]int, 0, count+spare), span(0, count-1, 1)...)
			s := spec()
			s.Deps = append(make([]api.Dep, 0, 3+spare), s.Deps...)
			note(l, reachOf(l))
			note(s.Deps, reachOf(s.Deps))
			for _, handed := range of(l, nil, l[:1]) {
				for range 3 {
					jobs, e := array.Expand(7, handed, s, 5)
					back, f := array.Parse(numbers(l))
					if e != api.OK || f != api.OK {
						t.Fatal(e, f)
					}
					note(jobs, reachOf(jobs))
					note(back, reachOf(back))
					for _, j := range jobs {
						note(j.Spec.Deps, reachOf(j.Spec.Deps))
					}
				}
			}
		}
	}
	slices.SortFunc(all, func(a, b reach) int { return cmp.Compare(a.from, b.from) })
	for i := 1; i < len(all); i++ {
		if all[i-1].to > all[i].from {
			t.Fatalf("two lists share memory: %v, %v", all[i-1], all[i])
		}
	}
	if len(all) < 500 {
		t.Errorf("the test is wrong: %d lists", len(all))
	}
	runtime.KeepAlive(kept)
}

// R6: no list and an empty one are the same, of indexes and of dependencies.
func TestEmptyAndNone(t *testing.T) {
	for _, l := range of(nil, of[int](), make([]int, 0, 5)) {
		for _, deps := range of(nil, of[api.Dep](), make([]api.Dep, 0, 5)) {
			s := spec()
			s.Deps = deps
			jobs, e := array.Expand(7, l, s, 5)
			if e != api.OK || len(jobs) != 1 || jobs[0].Of != 0 || jobs[0].Index != 0 || len(jobs[0].Spec.Deps) > 0 || cap(deps) > 0 && cap(jobs[0].Spec.Deps) > 0 {
				t.Errorf("%v, %v: %v, %d", l, deps, jobs, e)
			}
		}
		if text, e := array.Print(l); text != "" || e != api.ErrArg {
			t.Errorf("%v: %q, %d", l, text, e)
		}
	}
}

// R4: answers hang on nothing but the arguments: many callers at one time, with the same lists, are told the same as one.
func TestManyCallersAtOnce(t *testing.T) {
	l, s := of(0, 2, 4, 9), spec()
	var group sync.WaitGroup
	for k := range 8 {
		group.Add(1)
		go func() {
			defer group.Done()
			d := dice(k)
			for range 2000 {
				text, id, now := d.text(), d.below(20), int64(d.below(20)-2)
				want, err := readAs(text)
				list, e := array.Parse(text)
				wantJobs, wantE := expandOf(id, l, s, now)
				jobs, f := array.Expand(id, l, s, now)
				printed, g := array.Print(l)
				if e != err || f != wantE || g != api.OK || !slices.Equal(list, want) || !same(jobs, wantJobs) || printed != "0-4:2,9" {
					t.Errorf("%q: %v, %d; %d at %d: %v, %d; %q, %d", text, list, e, id, now, jobs, f, printed, g)
					return
				}
			}
		}()
	}
	group.Wait()
}

// R1: long lists and long texts are answered, too.
func TestLongArgumentsEnd(t *testing.T) {
	s := spec()
	s.User, s.Account, s.Qos, s.Part = strings.Repeat("a", 1<<20), strings.Repeat("b", 1<<20), strings.Repeat("c", 1<<20), strings.Repeat("d", 1<<20)
	s.Deps = make([]api.Dep, 1<<16)
	s.Deps[1<<16-1] = strange
	jobs, e := array.Expand(7, span(0, 31, 1), s, 5)
	want, _ := expandOf(7, span(0, 31, 1), s, 5)
	if e != api.OK || !same(jobs, want) {
		t.Errorf("%d jobs, %d", len(jobs), e)
	}
	very := span(0, 1<<24, 1)
	text, f := array.Print(very)
	jobs, e = array.Expand(7, very, s, 5)
	if text != "" || f != api.ErrArg || len(jobs) > 0 || e != api.ErrArg {
		t.Errorf("%q, %d, %d jobs, %d", text, f, len(jobs), e)
	}
	if l, e := array.Parse(strings.Repeat("0-9999,", 1<<20)); len(l) > 0 || e != api.ErrLong {
		t.Errorf("%v, %d", l, e)
	}
}
