package deps_test

import (
	"math"
	"slices"
	"strconv"
	"testing"

	"muster/api"
	"muster/deps"
)

// among is j as the first, the last and one between of others, whose states are all that its own is not.
func among(j api.Job) [][]api.Job {
	other := api.JobState(3)
	if j.State == other {
		other = 1
	}
	others := func(from, to int) []api.Job {
		var l []api.Job
		for id := from; id <= to; id++ {
			l = append(l, in(id, other))
		}
		return l
	}
	return [][]api.Job{
		{j},
		slices.Concat(of(j), others(100, 195)),
		slices.Concat(others(100, 195), of(j)),
		slices.Concat(others(100, 147), of(j), others(148, 195)),
	}
}

// P20.2: no dependency holds, with whatever jobs there are, and never is one that never will.
func TestNoDependency(t *testing.T) {
	for _, jobs := range [][]api.Job{nil, {}, {in(1, api.Running)}, {in(1, api.Never), in(2, api.Failed)}, {in(0, 0)}} {
		checkAsked(t, "no list", nil, jobs, true, false)
		checkAsked(t, "an empty list", of[api.Dep](), jobs, true, false)
		checkAsked(t, "an empty list, with spare room", of(ok(9))[:0], jobs, true, false)
	}
}

// P20.2: a job in each state, under each kind, alone and among others.
func TestEachState(t *testing.T) {
	const w, h, n = 'w', 'h', 'n'
	for state, want := range map[api.JobState][3]rune{
		api.Pending:   {w, w, w},
		api.Running:   {w, w, w},
		api.Completed: {h, h, n},
		api.Failed:    {h, n, h},
		api.Timeout:   {h, n, h},
		api.Cancelled: {h, n, h},
		api.NodeFail:  {h, n, h},
		api.Never:     {h, n, h},
		0:             {w, w, w}, // no state at all: it is none of those that are over
		9:             {w, w, w},
		255:           {w, w, w},
	} {
		for _, jobs := range among(in(7, state)) {
			for k, d := range of(anyway(7), ok(7), fail(7)) {
				what := "kind " + strconv.Itoa(k+1) + ", state " + strconv.Itoa(int(state)) + ", " + strconv.Itoa(len(jobs)) + " jobs"
				checkAsked(t, what, of(d), jobs, want[k] == h, want[k] == n)
			}
			for _, kind := range of[api.DepKind](0, 4, 5, 127, 128, 255) {
				what := "kind " + strconv.Itoa(int(kind)) + ", state " + strconv.Itoa(int(state))
				checkAsked(t, what, of(api.Dep{Kind: kind, Id: 7}), jobs, false, true)
			}
		}
	}
}

// P20.2: all states and all kinds that there can be.
func TestEachStateAndKind(t *testing.T) {
	for state := range 256 {
		jobs := of(in(7, api.JobState(state)))
		for kind := range 256 {
			l := of(api.Dep{Kind: api.DepKind(kind), Id: 7})
			holds, never := askedOf(l, jobs)
			if h, n := deps.Holds(l, jobs), deps.Never(l, jobs); h != holds || n != never {
				t.Fatalf("kind %d, state %d: Holds %v, Never %v", kind, state, h, n)
			}
		}
	}
}

// P20.2: which job is asked: the first one of that Id, wherever it stands; of one that is not there it never will.
func TestWhichJob(t *testing.T) {
	many := func() []api.Job {
		var l []api.Job
		for id := 1; id <= maxJobs; id++ {
			l = append(l, in(id, api.Failed))
		}
		return l
	}
	first, last := many(), many()
	first[0].State, last[maxJobs-1].State = api.Completed, api.Completed
	for name, x := range map[string]struct {
		d            api.Dep
		jobs         []api.Job
		holds, never bool
	}{
		"no list":                       {ok(1), nil, false, true},
		"no job":                        {ok(1), of[api.Job](), false, true},
		"no job, in the spare room":     {ok(1), of(in(1, api.Completed))[:0], false, true},
		"one job":                       {ok(1), of(in(1, api.Completed)), true, false},
		"one job, another":              {ok(2), of(in(1, api.Completed)), false, true},
		"the first of many":             {ok(1), first, true, false},
		"the second of many":            {ok(2), first, false, true},
		"the last of many":              {ok(maxJobs), last, true, false},
		"the one ahead of the last":     {ok(maxJobs - 1), last, false, true},
		"one above all":                 {anyway(maxJobs + 1), last, false, true},
		"one below all":                 {anyway(0), last, false, true},
		"one between":                   {fail(2), of(in(1, 3), in(3, 3)), false, true},
		"not there, ok":                 {ok(9), of(in(1, 3)), false, true},
		"not there, fail":               {fail(9), of(in(1, 4)), false, true},
		"not there, any":                {anyway(9), of(in(1, 3)), false, true},
		"not there, no kind":            {api.Dep{Id: 9}, of(in(1, 3)), false, true},
		"twice, the first has done so":  {ok(1), of(in(1, 3), in(1, 4)), true, false},
		"twice, the second has done so": {ok(1), of(in(1, 4), in(1, 3)), false, true},
		"twice, the first still runs":   {ok(1), of(in(1, 2), in(2, 3), in(1, 3)), false, false},
		"twice, the second still runs":  {ok(1), of(in(1, 3), in(2, 3), in(1, 2)), true, false},
		"twice, fail, the first failed": {fail(1), of(in(2, 3), in(1, 4), in(1, 3)), true, false},
		"they do not rise":              {ok(1), of(in(3, 4), in(2, 4), in(1, 3)), true, false},
		"0, and it is there":            {ok(0), of(in(1, 4), in(0, 3)), true, false},
		"below 0, and it is there":      {ok(-1), of(in(1, 4), in(-1, 3)), true, false},
		"the least, and it is there":    {ok(math.MinInt), of(in(1, 4), in(math.MinInt, 3)), true, false},
		"the greatest, and it is there": {ok(math.MaxInt), of(in(1, 4), in(math.MaxInt, 3)), true, false},
		"MaxId":                         {fail(maxId), of(in(1, 3), in(maxId, 4)), true, false},
		"2^32 more":                     {ok(1<<32 + 1), of(in(1, 3)), false, true},
		"an Of is not asked":            {ok(5), of(api.Job{Id: 4, Of: 5, State: 3}), false, true},
		"an Index is not asked":         {ok(5), of(api.Job{Id: 4, Index: 5, State: 3}), false, true},
	} {
		checkAsked(t, name, of(x.d), x.jobs, x.holds, x.never)
	}
}

// P20.2: nothing of a job is asked but its Id and its State.
func TestNothingElseIsAsked(t *testing.T) {
	d := dice(2)
	for state := range api.JobState(10) {
		for range 200 {
			j := in(7, state)
			j.Of, j.Index, j.Exit = d.number(), d.number(), d.number()
			j.Submit, j.Start, j.End = int64(d.number()), int64(d.number()), int64(d.number())
			j.On = api.Set(d.next())
			j.Spec = api.Spec{User: "ann", Nodes: d.number(), Cores: d.number(), Limit: int64(d.number()), Deps: of(ok(7), fail(8), anyway(9))}
			for kind := range api.DepKind(5) {
				l := of(api.Dep{Kind: kind, Id: 7})
				holds, never := askedOf(l, of(in(7, state)))
				if h, n := deps.Holds(l, of(j)), deps.Never(l, of(j)); h != holds || n != never {
					t.Fatalf("kind %d, %v: Holds %v, Never %v", kind, j, h, n)
				}
			}
		}
	}
}

// mixed are jobs of which each letter's dependencies tell that letter.
func mixed() (jobs []api.Job, by map[byte][]api.Dep) {
	jobs = of(in(1, 3), in(2, 4), in(3, 2), in(4, 1), in(5, 8), in(6, 6))
	return jobs, map[byte][]api.Dep{
		'h': {ok(1), fail(2), anyway(5), anyway(1)},
		'w': {ok(3), anyway(4), fail(3), fail(4)},
		'n': {ok(2), fail(1), anyway(9), {Kind: 4, Id: 1}, {Kind: 0, Id: 3}, ok(6)},
	}
}

// P20.2: those that hold, beside those that do not yet and those that never will, in every order of up to 6.
func TestEveryOrder(t *testing.T) {
	jobs, by := mixed()
	var from func(letters string, l []api.Dep)
	from = func(letters string, l []api.Dep) {
		holds, never := true, false
		for _, r := range letters {
			holds = holds && r == 'h'
			never = never || r == 'n'
		}
		checkAsked(t, letters, l, jobs, holds, never)
		if len(letters) == 6 {
			return
		}
		for _, letter := range []byte("hwn") {
			d := by[letter][len(letters)%len(by[letter])]
			from(letters+string(rune(letter)), append(l[:len(l):len(l)], d))
		}
	}
	from("", nil)
}

// P20.2: each pair and each triple of dependencies, whatever makes them hold, wait, or never hold.
func TestEachBeside(t *testing.T) {
	jobs, by := mixed()
	var all []api.Dep
	for _, letter := range []byte("hwn") {
		for _, d := range by[letter] {
			if got := fateOf(d, jobs); got != letter {
				t.Errorf("the test is wrong: %v: %c", d, got)
			}
			all = append(all, d)
		}
	}
	eachList(all, 3, func(l []api.Dep) {
		holds, never := askedOf(l, jobs)
		if h, n := deps.Holds(l, jobs), deps.Never(l, jobs); h != holds || n != never {
			t.Fatalf("%v: Holds %v, Never %v", l, h, n)
		}
	})
}

// P20.2: the same job under two kinds, and one dependency twice: each is asked for itself.
func TestOneJobTwice(t *testing.T) {
	for state, want := range map[api.JobState]struct{ holds, never bool }{
		api.Pending: {false, false}, api.Running: {false, false}, api.Completed: {false, true}, api.Failed: {false, true}, api.Never: {false, true},
	} {
		// They can't both hold, but which one never will is not told yet while the job is not over.
		checkAsked(t, "ok and fail", of(ok(1), fail(1)), of(in(1, state)), want.holds, want.never)
		checkAsked(t, "fail and ok", of(fail(1), ok(1)), of(in(1, state)), want.holds, want.never)
	}
	checkAsked(t, "ok and any, completed", of(ok(1), anyway(1)), of(in(1, 3)), true, false)
	checkAsked(t, "fail and any, completed", of(fail(1), anyway(1)), of(in(1, 3)), false, true)
	checkAsked(t, "any and fail, completed", of(anyway(1), fail(1)), of(in(1, 3)), false, true)
	checkAsked(t, "ok twice, completed", of(ok(1), ok(1)), of(in(1, 3)), true, false)
	checkAsked(t, "ok twice, running", of(ok(1), ok(1)), of(in(1, 2)), false, false)
	checkAsked(t, "ok twice, failed", of(ok(1), ok(1)), of(in(1, 4)), false, true)
}

// P20.2: Holds and Never do not ask whether the list is right: one of more than 4 is asked to its end.
func TestMoreThanFour(t *testing.T) {
	jobs := of(in(1, 3), in(2, 4), in(3, 2))
	for _, count := range of(4, 5, 6, 100, 65536) {
		for _, place := range of(0, count/2, count-1) {
			l := slices.Repeat(of(ok(1)), count)
			what := strconv.Itoa(place) + " of " + strconv.Itoa(count)
			checkAsked(t, what+" holds, too", l, jobs, true, false)
			l[place] = ok(3)
			checkAsked(t, what+" waits", l, jobs, false, false)
			l[place] = ok(2)
			checkAsked(t, what+" never will", l, jobs, false, true)
		}
	}
}

// P20.2: all lists of up to 2, out of all kinds and four ids, with all states of three jobs.
func TestAskedOfAll(t *testing.T) {
	var out []api.Dep
	for kind := range api.DepKind(5) {
		for id := range 5 {
			out = append(out, api.Dep{Kind: kind, Id: id})
		}
	}
	for states := range 10 * 10 * 10 {
		jobs := of(in(1, api.JobState(states%10)), in(2, api.JobState(states/10%10)), in(3, api.JobState(states/100)))
		eachList(out, 2, func(l []api.Dep) {
			holds, never := askedOf(l, jobs)
			if h, n := deps.Holds(l, jobs), deps.Never(l, jobs); h != holds || n != never {
				t.Fatalf("%v of %v: Holds %v, Never %v", l, jobs, h, n)
			}
		})
	}
}

// P20.2: any lists and jobs.
func TestAskedOfAny(t *testing.T) {
	d := dice(3)
	hold, wait, lost := 0, 0, 0
	for range 100000 {
		count := 1 + d.below(12)
		l, jobs := d.list(count), d.jobs(count)
		holds, never := askedOf(l, jobs)
		if h, n := deps.Holds(l, jobs), deps.Never(l, jobs); h != holds || n != never {
			t.Fatalf("%v of %v: Holds %v, Never %v", l, jobs, h, n)
		}
		switch {
		case holds && len(l) > 1:
			hold++
		case never:
			lost++
		case !holds:
			wait++
		}
	}
	if hold < 2000 || wait < 2000 || lost < 2000 {
		t.Errorf("the test is wrong: %d hold, %d wait, %d never will", hold, wait, lost)
	}
}
