package job_test

import (
	"math"
	"strconv"
	"testing"

	"muster/api"
	"muster/job"
)

// beginOf is Begin in plain words.
func beginOf(j api.Job, on api.Set, now int64) (api.Job, api.Errno) {
	switch {
	case !isRight(j) || countOf(on) != j.Spec.Nodes || now < j.Submit || now > maxTime:
		return api.Job{}, api.ErrArg
	case j.State != 1:
		return api.Job{}, api.ErrState
	}
	return api.Job{Id: j.Id, Of: j.Of, Index: j.Index, Spec: j.Spec, State: 2, Submit: j.Submit, Start: now, On: on}, api.OK
}

// checkBegin asks Begin, of which it is told which error it answers.
func checkBegin(t *testing.T, what string, j api.Job, on api.Set, now int64, err api.Errno) {
	t.Helper()
	want, wantErr := beginOf(j, on, now)
	if wantErr != err {
		t.Errorf("%s: the test is wrong: %d", what, wantErr)
	}
	for range 2 {
		begun, e := job.Begin(j, on, now)
		if e != err || !same(begun, want) || e != api.OK && !isZero(begun) {
			t.Errorf("%s: Begin(%v, %b, %d) = %v, %d, not %v, %d", what, j, on, now, begun, e, want, err)
		}
	}
}

// P18.2: what a job that begins has: all as it was, but its State, its Start and its nodes.
func TestBegin(t *testing.T) {
	j := kindOf("pending").job()
	begun, e := job.Begin(j, 10, 8)
	if e != api.OK || !same(begun, api.Job{Id: 7, Of: 5, Index: 3, Spec: spec(), State: api.Running, Submit: 5, Start: 8, On: 10}) {
		t.Errorf("%v, %d", begun, e)
	}
	checkBegin(t, "on nodes 0 and 31", j, 1<<31|1, 8, api.OK)
	checkBegin(t, "a job alone", job.Make(1, spec(), 0), 3, 0, api.OK)
}

// P18.2: now at each edge.
func TestBeginByNow(t *testing.T) {
	for _, submit := range of(0, 1, 5, maxTime-1, maxTime) {
		j := kindOf("pending").at(submit, 0, 0)
		for _, now := range append(edgeTimes(), submit-1, submit, submit+1) {
			err := api.OK
			if now < submit || now > maxTime {
				err = api.ErrArg
			}
			checkBegin(t, strconv.FormatInt(submit, 10)+" at "+strconv.FormatInt(now, 10), j, 3, now, err)
		}
	}
}

// P18.2: on just as many nodes as were asked for, one too few, one too many, and none.
func TestBeginByCount(t *testing.T) {
	d := dice(3)
	for asked := 1; asked <= maxNodes; asked++ {
		j := kindOf("pending").job()
		j.Spec.Nodes = asked
		for count := range maxNodes + 1 {
			err := api.OK
			if count != asked {
				err = api.ErrArg
			}
			checkBegin(t, strconv.Itoa(asked)+" asked for, on "+strconv.Itoa(count), j, d.nodes(count), 7, err)
		}
	}
}

// P18.2: each kind of job: all but a pending one are in another state, at each time that may be.
func TestBeginOfEachState(t *testing.T) {
	for _, k := range kinds() {
		err := api.ErrState
		if k.state == api.Pending {
			err = api.OK
		}
		for _, now := range of(5, 6, 7, 8, 9, 10, maxTime) {
			checkBegin(t, k.name+" at "+strconv.FormatInt(now, 10), k.job(), 3, now, err)
			checkBegin(t, k.name+" on others at "+strconv.FormatInt(now, 10), k.job(), 12, now, err)
		}
		for _, now := range of(-1, 0, 4, maxTime+1) {
			checkBegin(t, k.name+" at "+strconv.FormatInt(now, 10), k.job(), 3, now, api.ErrArg)
		}
	}
}

// P18.2: a job that is not right, in each way.
func TestBeginOfWhatIsNotRight(t *testing.T) {
	for name, edge := range commonEdges() {
		for _, k := range kinds() {
			j := k.job()
			edge.change(&j)
			err := api.OK
			if !edge.right {
				err = api.ErrArg
			} else if k.state != api.Pending {
				err = api.ErrState
			}
			checkBegin(t, k.name+", "+name, j, api.Set(uint64(1)<<max(0, min(j.Spec.Nodes, maxNodes))-1), 7, err)
		}
	}
	for name, change := range map[string]func(j *api.Job){
		"a Start":      func(j *api.Job) { j.Start = 7 },
		"an End":       func(j *api.Job) { j.End = 7 },
		"nodes":        func(j *api.Job) { j.On = 3 },
		"an exit":      func(j *api.Job) { j.Exit = 1 },
		"Submit -1":    func(j *api.Job) { j.Submit = -1 },
		"a late one":   func(j *api.Job) { j.Submit = maxTime + 1 },
		"no state":     func(j *api.Job) { j.State = 0 },
		"a ninth":      func(j *api.Job) { j.State = 9 },
		"the last one": func(j *api.Job) { j.State = 255 },
	} {
		j := kindOf("pending").job()
		change(&j)
		for _, now := range of(-1, 0, 5, 7, maxTime, maxTime+1) {
			checkBegin(t, "pending with "+name, j, 3, now, api.ErrArg)
		}
	}
	checkBegin(t, "the zero job", api.Job{}, 0, 0, api.ErrArg)
}

// P18.2: ErrArg comes first where ErrState holds, too: in each state that can't begin, by each thing that may not be.
func TestBeginTellsTheFirst(t *testing.T) {
	for _, k := range kinds()[1:] {
		checkBegin(t, k.name+" alone", k.job(), 3, 7, api.ErrState)
		checkBegin(t, k.name+", on one too few", k.job(), 1, 7, api.ErrArg)
		checkBegin(t, k.name+", on one too many", k.job(), 7, 7, api.ErrArg)
		checkBegin(t, k.name+", on none", k.job(), 0, 7, api.ErrArg)
		checkBegin(t, k.name+", one below Submit", k.job(), 3, 4, api.ErrArg)
		checkBegin(t, k.name+", one above MaxTime", k.job(), 3, maxTime+1, api.ErrArg)
		j := k.job()
		j.Index = -1
		checkBegin(t, k.name+", not right", j, 3, 7, api.ErrArg)
		checkBegin(t, k.name+", nothing may be", j, 0, -1, api.ErrArg)
	}
}

// P18.2: any jobs, sets and times.
func TestBeginOfAny(t *testing.T) {
	d := dice(4)
	told := map[api.Errno]int{}
	for range 200000 {
		k := kinds()[0]
		if d.below(3) == 0 {
			k = one(&d, kinds())
		}
		j := d.job(k)
		if d.below(3) == 0 {
			d.bend(&j)
		}
		on := d.nodes(max(0, min(j.Spec.Nodes, maxNodes)))
		if d.below(4) == 0 {
			on ^= 1 << d.below(maxNodes)
		}
		now := one(&d, of(d.time(max(0, j.Submit)), d.time(max(0, j.Submit)), j.Submit-1, j.Submit, d.number(), math.MaxInt64))
		want, err := beginOf(j, on, now)
		if begun, e := job.Begin(j, on, now); e != err || !same(begun, want) {
			t.Fatalf("Begin(%v, %b, %d) = %v, %d, not %v, %d", j, on, now, begun, e, want, err)
		}
		told[err]++
	}
	for _, err := range of(api.OK, api.ErrArg, api.ErrState) {
		if told[err] < 10000 {
			t.Errorf("the test is wrong: %d is told %d times", err, told[err])
		}
	}
}
