package job_test

import (
	"math"
	"testing"

	"muster/api"
	"muster/job"
)

// deed is a call of Begin or Finish.
type deed struct {
	begins bool
	on     api.Set
	state  api.JobState
	exit   int
	now    int64
}

func (x deed) do(j api.Job) (api.Job, api.Errno) {
	if x.begins {
		return job.Begin(j, x.on, x.now)
	}
	return job.Finish(j, x.state, x.exit, x.now)
}

// life is what became of a job: all that it was, and how often it began and ended.
type life struct {
	was          []api.Job
	begun, ended int
}

// take does x with the job as it is, and holds what follows against the chapter.
func (l life) take(t *testing.T, x deed) life {
	t.Helper()
	j := l.was[len(l.was)-1]
	next, e := x.do(j)
	if e != api.OK {
		if !isZero(next) {
			t.Fatalf("%v of %v: %v beside %d", x, j, next, e)
		}
		return l
	}
	if !job.Right(next) || !isRight(next) {
		t.Fatalf("%v of %v: %v is not right", x, j, next)
	}
	if isOver(j.State) {
		t.Fatalf("%v of %v: it is over, and goes on as %v", x, j, next)
	}
	if x.begins {
		l.begun++
	} else {
		l.ended++
	}
	if l.begun > 1 || l.ended > 1 {
		t.Fatalf("%v of %v: begun %d times, ended %d times", x, j, l.begun, l.ended)
	}
	if isOver(next.State) != (l.ended == 1) || (next.On != 0) != (l.begun == 1) || x.begins != (next.State == api.Running) {
		t.Fatalf("%v of %v: %v", x, j, next)
	}
	l.was = append(append([]api.Job(nil), l.was...), next)
	return l
}

// fewDeeds are calls at a few times, on right nodes and on others, to all states.
func fewDeeds() []deed {
	var l []deed
	for _, now := range of(4, 5, 7, maxTime, maxTime+1) {
		l = append(l, deed{begins: true, on: 3, now: now}, deed{begins: true, on: 6, now: now}, deed{begins: true, on: 1, now: now})
		for s := range api.JobState(10) {
			l = append(l, deed{state: s, now: now}, deed{state: s, exit: 5, now: now})
		}
	}
	return l
}

// P18.5: through all runs of three calls, from Make on, and from a right job of each kind.
func TestAllShortLives(t *testing.T) {
	var from []api.Job
	for _, k := range kinds() {
		from = append(from, k.job())
	}
	from = append(from, job.Make(1, spec(), 5))
	for _, j := range from {
		begin := life{was: []api.Job{j}}
		if j.On != 0 {
			begin.begun = 1
		}
		if isOver(j.State) {
			begin.ended = 1
		}
		lives := []life{begin}
		for range 3 {
			var next []life
			for _, l := range lives {
				for _, x := range fewDeeds() {
					if after := l.take(t, x); len(after.was) > len(l.was) {
						next = append(next, after)
					}
				}
			}
			if isOver(j.State) && len(next) > 0 {
				t.Errorf("%v: what is over goes on", j)
			}
			lives = next
		}
		if len(lives) > 0 {
			t.Errorf("%v: it goes on for three calls: %v", j, lives[0].was)
		}
	}
}

// P18.5: any jobs from Make on, through any calls.
func TestAnyLives(t *testing.T) {
	d := dice(8)
	begun, ended, both := 0, 0, 0
	for range 20000 {
		submit := d.time(0)
		j := job.Make(1+d.below(maxId), d.spec(), submit)
		if !job.Right(j) {
			t.Fatalf("%v is not right", j)
		}
		l := life{was: []api.Job{j}}
		now := submit
		for range 30 {
			if d.below(3) == 0 {
				now = d.time(now)
			}
			x := deed{begins: d.below(3) == 0, on: d.nodes(j.Spec.Nodes), state: api.JobState(d.below(10)), exit: one(&d, of(0, 1, -1, math.MinInt, math.MaxInt)), now: now}
			if d.below(5) == 0 {
				x.on ^= 1 << d.below(maxNodes)
			}
			if d.below(5) == 0 {
				x.now = one(&d, of(-1, submit-1, 0, maxTime+1, math.MaxInt64))
			}
			l = l.take(t, x)
		}
		begun += l.begun
		ended += l.ended
		both += l.begun * l.ended
	}
	if begun < 5000 || ended < 15000 || both < 5000 {
		t.Errorf("the test is wrong: %d began, %d ended, %d did both", begun, ended, both)
	}
}

// P18.5: what Begin and Finish tell of any right job is right.
func TestWhatIsToldIsRight(t *testing.T) {
	d := dice(9)
	told := 0
	for range 100000 {
		k := one(&d, kinds())
		if d.below(2) == 0 {
			k = one(&d, kinds()[:2])
		}
		j := d.job(k)
		x := deed{begins: d.below(2) == 0, on: d.nodes(j.Spec.Nodes), state: api.JobState(1 + d.below(8)), exit: int(d.number()), now: d.time(max(j.Submit, j.Start))}
		next, e := x.do(j)
		if e != api.OK {
			continue
		}
		told++
		if !job.Right(next) || !isRight(next) || job.End(next) < j.Submit {
			t.Fatalf("%v of %v: %v", x, j, next)
		}
	}
	if told < 10000 {
		t.Errorf("the test is wrong: %d are told", told)
	}
}

// P18.5: a job that has begun, and all that became of it, never begins again, whenever and wherever it is tried.
func TestNoneBeginsAgain(t *testing.T) {
	d := dice(10)
	for range 5000 {
		begun := d.job(kindOf("running"))
		all := []api.Job{begun}
		for s := range api.JobState(10) {
			if after, e := job.Finish(begun, s, d.below(3), d.time(begun.Start)); e == api.OK {
				all = append(all, after)
			}
		}
		if len(all) != 6 {
			t.Fatalf("%v: it ends in %d ways", begun, len(all)-1)
		}
		for _, j := range all {
			for _, on := range of(begun.On, d.nodes(begun.Spec.Nodes), 0) {
				for _, now := range of(begun.Submit, begun.Start, d.time(begun.Start), maxTime) {
					if again, e := job.Begin(j, on, now); e == api.OK || !isZero(again) {
						t.Fatalf("%v begins again: %v, %d", j, again, e)
					}
				}
			}
		}
	}
}

// P18.5: what is over stays as it is: no call tells another state of it, and it is as it was behind all of them.
func TestWhatIsOverStays(t *testing.T) {
	d := dice(11)
	for _, k := range kinds()[2:] {
		for range 300 {
			j := d.job(k)
			before := j
			before.Spec.Deps = append([]api.Dep(nil), j.Spec.Deps...)
			for s := range 256 {
				now := d.time(j.Submit)
				if next, e := job.Finish(j, api.JobState(s), d.below(3), now); e != api.ErrState || !isZero(next) {
					t.Fatalf("%v goes on to %d: %v, %d", j, s, next, e)
				}
				if next, e := job.Begin(j, d.nodes(j.Spec.Nodes), now); e != api.ErrState || !isZero(next) {
					t.Fatalf("%v begins: %v, %d", j, next, e)
				}
			}
			if !same(j, before) || job.End(j) != before.End || !job.Right(j) {
				t.Fatalf("%v was %v", j, before)
			}
		}
	}
}
