package job_test

import (
	"math"
	"slices"
	"strconv"
	"testing"

	"muster/api"
	"muster/job"
)

// follow are the ends that may follow each state, as the chapter lists them.
func follow() map[api.JobState][]api.JobState {
	return map[api.JobState][]api.JobState{
		api.Pending: {api.Cancelled, api.Never},
		api.Running: {api.Completed, api.Failed, api.Timeout, api.Cancelled, api.NodeFail},
	}
}

// finishOf is Finish in plain words.
func finishOf(j api.Job, s api.JobState, exit int, now int64) (api.Job, api.Errno) {
	switch {
	case !isRight(j) || now < j.Submit || j.State == 2 && now < j.Start || now > maxTime:
		return api.Job{}, api.ErrArg
	case !slices.Contains(follow()[j.State], s):
		return api.Job{}, api.ErrState
	}
	want := api.Job{Id: j.Id, Of: j.Of, Index: j.Index, Spec: j.Spec, State: s, Submit: j.Submit, Start: j.Start, End: now, On: j.On}
	if s == 4 && exit == 0 {
		want.Exit = 1
	} else if s == 4 {
		want.Exit = exit
	}
	return want, api.OK
}

// checkFinish asks Finish, of which it is told which error it answers.
func checkFinish(t *testing.T, what string, j api.Job, s api.JobState, exit int, now int64, err api.Errno) {
	t.Helper()
	want, wantErr := finishOf(j, s, exit, now)
	if wantErr != err {
		t.Errorf("%s: the test is wrong: %d", what, wantErr)
	}
	for range 2 {
		finished, e := job.Finish(j, s, exit, now)
		if e != err || !same(finished, want) || e != api.OK && !isZero(finished) {
			t.Errorf("%s: Finish(%v, %d, %d, %d) = %v, %d, not %v, %d", what, j, s, exit, now, finished, e, want, err)
		}
	}
}

// P18.3: what a job that is over has: all as it was, but its State, its End and its Exit.
func TestFinish(t *testing.T) {
	pending, running := kindOf("pending").job(), kindOf("running").job()
	over := func(j api.Job, s api.JobState, exit int) api.Job {
		j.State, j.End, j.Exit = s, 12, exit
		return j
	}
	for name, x := range map[string]struct {
		j    api.Job
		s    api.JobState
		exit int
		want api.Job
	}{
		"running, Completed":           {running, api.Completed, 0, over(running, 3, 0)},
		"running, Completed, told 4":   {running, api.Completed, 4, over(running, 3, 0)},
		"running, Failed":              {running, api.Failed, 4, over(running, 4, 4)},
		"running, Failed, told 0":      {running, api.Failed, 0, over(running, 4, 1)},
		"running, Failed, told 1":      {running, api.Failed, 1, over(running, 4, 1)},
		"running, Failed, told -1":     {running, api.Failed, -1, over(running, 4, -1)},
		"running, Failed, the least":   {running, api.Failed, math.MinInt, over(running, 4, math.MinInt)},
		"running, Failed, the most":    {running, api.Failed, math.MaxInt, over(running, 4, math.MaxInt)},
		"running, Failed, told 2^32":   {running, api.Failed, 1 << 32, over(running, 4, 1<<32)},
		"running, Timeout":             {running, api.Timeout, 0, over(running, 5, 0)},
		"running, Timeout, told 4":     {running, api.Timeout, 4, over(running, 5, 0)},
		"running, Cancelled":           {running, api.Cancelled, 0, over(running, 6, 0)},
		"running, Cancelled, told 4":   {running, api.Cancelled, 4, over(running, 6, 0)},
		"running, NodeFail":            {running, api.NodeFail, 0, over(running, 7, 0)},
		"running, NodeFail, told 4":    {running, api.NodeFail, 4, over(running, 7, 0)},
		"pending, Cancelled":           {pending, api.Cancelled, 0, over(pending, 6, 0)},
		"pending, Cancelled, told 4":   {pending, api.Cancelled, 4, over(pending, 6, 0)},
		"pending, Never":               {pending, api.Never, 0, over(pending, 8, 0)},
		"pending, Never, told 4":       {pending, api.Never, 4, over(pending, 8, 0)},
		"pending, Never, told -1":      {pending, api.Never, -1, over(pending, 8, 0)},
		"pending, Cancelled, told max": {pending, api.Cancelled, math.MaxInt, over(pending, 6, 0)},
	} {
		if finished, e := job.Finish(x.j, x.s, x.exit, 12); e != api.OK || !same(finished, x.want) {
			t.Errorf("%s: %v, %d, not %v", name, finished, e, x.want)
		}
	}
}

// P18.3: from each kind of job to each state, and to what is none, with an exit of 0 and of others.
func TestFinishFromEachToEach(t *testing.T) {
	done := 0
	for _, k := range kinds() {
		for s := range 256 {
			for _, exit := range of(0, 1, -1, 7, math.MinInt, math.MaxInt) {
				err := api.ErrState
				if slices.Contains(follow()[k.state], api.JobState(s)) {
					err = api.OK
					done++
				}
				checkFinish(t, k.name+" to "+strconv.Itoa(s)+", told "+strconv.Itoa(exit), k.job(), api.JobState(s), exit, 9, err)
			}
		}
	}
	if done != 7*6 {
		t.Errorf("the test is wrong: %d are done", done)
	}
}

// P18.3: now at each edge: from Submit on, of a running one from Start on, to MaxTime, in each way that it may end.
func TestFinishByNow(t *testing.T) {
	for _, k := range kinds() {
		for _, submit := range of(0, 5, maxTime-2) {
			j := k.at(submit, submit+2, maxTime)
			from := submit
			if k.state == api.Running {
				from = submit + 2
			}
			for _, now := range append(edgeTimes(), submit-1, submit, submit+1, submit+2, submit+3) {
				for s := range api.JobState(10) {
					err := api.OK
					if now < from || now > maxTime {
						err = api.ErrArg
					} else if !slices.Contains(follow()[k.state], s) {
						err = api.ErrState
					}
					checkFinish(t, k.name+" to "+strconv.Itoa(int(s))+" at "+strconv.FormatInt(now, 10), j, s, 0, now, err)
				}
			}
		}
	}
	running := kindOf("running").job()
	checkFinish(t, "a running one, one below Submit", running, api.Completed, 0, 4, api.ErrArg)
	checkFinish(t, "a running one, at Submit", running, api.Completed, 0, 5, api.ErrArg)
	checkFinish(t, "a running one, one below Start", running, api.Completed, 0, 6, api.ErrArg)
	checkFinish(t, "a running one, at Start", running, api.Completed, 0, 7, api.OK)
	checkFinish(t, "a running one, behind its Limit", running, api.Completed, 0, 18, api.OK)
	checkFinish(t, "a running one, at MaxTime", running, api.Completed, 0, maxTime, api.OK)
	checkFinish(t, "a running one, one above it", running, api.Completed, 0, maxTime+1, api.ErrArg)
	checkFinish(t, "one that is over, ahead of its Start", kindOf("completed").job(), api.Completed, 0, 5, api.ErrState)
	checkFinish(t, "one that is over, ahead of its End", kindOf("completed").job(), api.Completed, 0, 8, api.ErrState)
}

// P18.3: a job that is not right, in each way.
func TestFinishOfWhatIsNotRight(t *testing.T) {
	for name, edge := range commonEdges() {
		for _, k := range kinds() {
			j := k.job()
			edge.change(&j)
			for s := range api.JobState(10) {
				err := api.OK
				if !edge.right {
					err = api.ErrArg
				} else if !slices.Contains(follow()[k.state], s) {
					err = api.ErrState
				}
				checkFinish(t, k.name+", "+name, j, s, 4, 9, err)
			}
		}
	}
	for name, change := range map[string]func(j *api.Job){
		"an End":             func(j *api.Job) { j.End = 9 },
		"an exit":            func(j *api.Job) { j.Exit = 1 },
		"one node too many":  func(j *api.Job) { j.On = 7 },
		"one node too few":   func(j *api.Job) { j.On = 1 },
		"an early Start":     func(j *api.Job) { j.Start = 4 },
		"a late Start":       func(j *api.Job) { j.Start = maxTime + 1 },
		"Submit -1":          func(j *api.Job) { j.Submit = -1 },
		"a late Submit":      func(j *api.Job) { j.Submit = 8 },
		"Submit beyond time": func(j *api.Job) { j.Submit = maxTime + 1 },
		"no state":           func(j *api.Job) { j.State = 0 },
		"a ninth":            func(j *api.Job) { j.State = 9 },
		"the last one":       func(j *api.Job) { j.State = 255 },
	} {
		for _, k := range kinds()[:2] {
			j := k.job()
			change(&j)
			if isRight(j) { // a pending one may be submitted at 8
				continue
			}
			for s := range api.JobState(10) {
				for _, now := range of(-1, 0, 9, maxTime, maxTime+1) {
					checkFinish(t, k.name+" with "+name, j, s, 0, now, api.ErrArg)
				}
			}
		}
	}
	checkFinish(t, "the zero job", api.Job{}, api.Cancelled, 0, 0, api.ErrArg)
}

// P18.3: ErrArg comes first where ErrState holds, too: with each state that may not follow, by each thing that may not be.
func TestFinishTellsTheFirst(t *testing.T) {
	for _, k := range kinds() {
		for s := range 256 {
			s := api.JobState(s)
			if slices.Contains(follow()[k.state], s) {
				continue
			}
			what := k.name + " to " + strconv.Itoa(int(s))
			checkFinish(t, what+" alone", k.job(), s, 0, 9, api.ErrState)
			checkFinish(t, what+", one below Submit", k.job(), s, 0, 4, api.ErrArg)
			checkFinish(t, what+", one above MaxTime", k.job(), s, 0, maxTime+1, api.ErrArg)
			if k.state == api.Running {
				checkFinish(t, what+", one below Start", k.job(), s, 0, 6, api.ErrArg)
			}
			j := k.job()
			j.Of = 8
			checkFinish(t, what+", not right", j, s, 0, 9, api.ErrArg)
			checkFinish(t, what+", nothing may be", j, s, 0, -1, api.ErrArg)
		}
	}
}

// P18.3: any jobs, states, exits and times.
func TestFinishOfAny(t *testing.T) {
	d := dice(5)
	told := map[api.Errno]int{}
	for range 200000 {
		k := one(&d, kinds()[:2])
		if d.below(4) == 0 {
			k = one(&d, kinds())
		}
		j := d.job(k)
		if d.below(4) == 0 {
			d.bend(&j)
		}
		s := api.JobState(one(&d, of(d.below(10), d.below(10), d.below(256))))
		exit := int(d.number())
		now := one(&d, of(d.time(max(0, j.Submit)), d.time(max(0, j.Start)), j.Submit-1, j.Submit, j.Start-1, j.Start, d.number()))
		want, err := finishOf(j, s, exit, now)
		if finished, e := job.Finish(j, s, exit, now); e != err || !same(finished, want) {
			t.Fatalf("Finish(%v, %d, %d, %d) = %v, %d, not %v, %d", j, s, exit, now, finished, e, want, err)
		}
		told[err]++
	}
	for _, err := range of(api.OK, api.ErrArg, api.ErrState) {
		if told[err] < 10000 {
			t.Errorf("the test is wrong: %d is told %d times", err, told[err])
		}
	}
}
