package deps_test

import (
	"testing"

	"muster/api"
	"muster/deps"
)

// The tests' own numbers, so that they don't lean on what they test.
const (
	maxDeps = 4
	maxJobs = 96
	maxId   = 1073741824           // 2^30
	maxTime = int64(1099511627776) // 2^40
)

// of is the list of these.
func of[T any](l ...T) []T { return l }

// The three kinds of dependencies.
func anyway(id int) api.Dep { return api.Dep{Kind: 1, Id: id} }
func ok(id int) api.Dep     { return api.Dep{Kind: 2, Id: id} }
func fail(id int) api.Dep   { return api.Dep{Kind: 3, Id: id} }

// in is a job of that id, in that state, of which nothing else is right.
func in(id int, s api.JobState) api.Job { return api.Job{Id: id, State: s, Of: -id} }

// rightOf is Right in plain words.
func rightOf(l []api.Dep, next int) api.Errno {
	if len(l) >= maxDeps+1 {
		return api.ErrLong
	}
	ahead := map[[2]int]int{}
	for _, d := range l {
		kind, id := int(d.Kind), d.Id
		if kind == 0 || kind >= 4 || id <= 0 {
			return api.ErrArg
		}
		if !(id < next) {
			return api.ErrSelf
		}
		if ahead[[2]int{kind, id}]++; ahead[[2]int{kind, id}] > 1 {
			return api.ErrTwice
		}
	}
	return api.OK
}

// fateOf is what has become of a dependency: w, it waits; h, it holds; n, it never will.
func fateOf(d api.Dep, jobs []api.Job) byte {
	// Of a job in no state, in each of the eight, and in one above them.
	const (
		ofAny  = "wwwhhhhhhw"
		ofOk   = "wwwhnnnnnw"
		ofFail = "wwwnhhhhhw"
	)
	for _, j := range jobs {
		if j.Id == d.Id {
			state := min(int(j.State), 9)
			switch d.Kind {
			case 1:
				return ofAny[state]
			case 2:
				return ofOk[state]
			case 3:
				return ofFail[state]
			}
			return 'n'
		}
	}
	return 'n'
}

// askedOf is Holds and Never in plain words.
func askedOf(l []api.Dep, jobs []api.Job) (holds, never bool) {
	count := map[byte]int{}
	for _, d := range l {
		count[fateOf(d, jobs)]++
	}
	return count['h'] == len(l), count['n'] > 0
}

// checkRight asks Right, of which it is told what it answers.
func checkRight(t *testing.T, what string, l []api.Dep, next int, err api.Errno) {
	t.Helper()
	if e := rightOf(l, next); e != err {
		t.Errorf("%s: the test is wrong: %d", what, e)
	}
	for range 2 {
		if e := deps.Right(l, next); e != err {
			t.Errorf("%s: Right(%v, %d) = %d, not %d", what, l, next, e, err)
		}
	}
}

// checkAsked asks Holds and Never, of which it is told what they answer.
func checkAsked(t *testing.T, what string, l []api.Dep, jobs []api.Job, holds, never bool) {
	t.Helper()
	if h, n := askedOf(l, jobs); h != holds || n != never {
		t.Errorf("%s: the test is wrong: %v, %v", what, h, n)
	}
	for range 2 {
		if h, n := deps.Holds(l, jobs), deps.Never(l, jobs); h != holds || n != never {
			t.Errorf("%s: %v of %v: Holds %v, not %v; Never %v, not %v", what, l, jobs, h, holds, n, never)
		}
	}
}

// P20.1, P20.2: the chapter's examples.
func TestChapters(t *testing.T) {
	jobs := of(in(1, api.Completed), in(2, api.Failed), in(3, api.Running))
	checkAsked(t, "ok 1", of(api.Dep{Kind: api.DepOk, Id: 1}), jobs, true, false)
	checkAsked(t, "ok 2", of(api.Dep{Kind: api.DepOk, Id: 2}), jobs, false, true)
	checkAsked(t, "fail 2", of(api.Dep{Kind: api.DepFail, Id: 2}), jobs, true, false)
	checkAsked(t, "any 2", of(api.Dep{Kind: api.DepAny, Id: 2}), jobs, true, false)
	checkAsked(t, "any 3", of(api.Dep{Kind: api.DepAny, Id: 3}), jobs, false, false)
	checkAsked(t, "ok 9", of(api.Dep{Kind: api.DepOk, Id: 9}), jobs, false, true)
	checkRight(t, "ok 5", of(api.Dep{Kind: api.DepOk, Id: 5}), 5, api.ErrSelf)
}
