package profile_test

import (
	"math/bits"
	"slices"
	"testing"

	"muster/api"
	"muster/profile"
)

// isRight asks each word of the chapter for itself.
func isRight(p [][]api.Cut) bool {
	return len(p) >= 1 && len(p) <= maxNodes && !slices.ContainsFunc(p, func(s []api.Cut) bool { return !isFunction(s) })
}

// isFunction asks each word of layer 11 for itself.
func isFunction(s []api.Cut) bool {
	if len(s) < 1 || len(s) > maxCuts || s[0].At != 0 {
		return false
	}
	for i, c := range s {
		if c.At > last || c.Free < 0 || c.Free > most {
			return false
		}
		if i > 0 && (c.At <= s[i-1].At || c.Free == s[i-1].Free) {
			return false
		}
	}
	return true
}

// P12.5: what New, Take and Give tell is right, however many are taken and given one behind the other; the values are what all of them make.
func TestWhatIsToldIsRight(t *testing.T) {
	const ticks, nodes = 30, 5
	d := dice(6)
	for range 100 {
		var cores []int
		var all [nodes][ticks]int
		for node := range all {
			cores = append(cores, 1+d.below(6))
			for i := range all[node] {
				all[node][i] = cores[node]
			}
		}
		p, e := profile.New(cores)
		if e != api.OK || !profile.Right(p) || !isRight(p) {
			t.Fatalf("New(%v) = %v, %d", cores, p, e)
		}
		for range 60 {
			on := d.set() & first(nodes)
			from := d.below(ticks - 1)
			to := from + 1 + d.below(ticks-1-from)
			n := d.below(5) - 2
			after, over := all, false
			for node := range after {
				for i := from; i < to && has(on, node); i++ {
					after[node][i] += n
					over = over || after[node][i] < 0
				}
			}
			change, c := profile.Give, n
			if n < 0 {
				change, c = profile.Take, -n
			}
			q, e := change(p, on, c, int64(from), int64(to))
			if over != (e == api.ErrOver) || !over && (e != api.OK || !profile.Right(q) || !isRight(q)) {
				t.Fatalf("%v, %b, %d, %d, %d: %v, %d", p, on, n, from, to, q, e)
			}
			if over {
				continue
			}
			p, all = q, after
			for node, s := range p {
				for i, v := range all[node] {
					if valueAt(s, int64(i)) != v {
						t.Fatalf("node %d is %v, not %d at %d", node, s, v, i)
					}
				}
			}
		}
	}
}

// P12.5: what is told is right at the edges, too: at MaxCuts, at 2^41, at 0 and at 2^30.
func TestWhatIsToldIsRightAtTheEdges(t *testing.T) {
	for _, cases := range []map[string]changeCase{takes(), gives()} {
		for name, c := range cases {
			for _, change := range []func([][]api.Cut, api.Set, int, int64, int64) ([][]api.Cut, api.Errno){profile.Take, profile.Give} {
				if q, e := change(c.p, c.on, c.c, c.from, c.to); e == api.OK && (!profile.Right(q) || !isRight(q)) {
					t.Errorf("%s: is not right", name)
				}
			}
		}
	}
}

// P12.5: Give of what was taken is what there was, and so is Take of what was given.
func TestThereAndBack(t *testing.T) {
	check := func(p [][]api.Cut, on api.Set, c int, from, to int64) bool {
		told := false
		if there, e := profile.Take(p, on, c, from, to); e == api.OK {
			told = true
			if back, e := profile.Give(there, on, c, from, to); e != api.OK || !same(back, p) {
				t.Fatalf("Take(%v, %b, %d, %d, %d) = %v, and back: %v, %d", p, on, c, from, to, there, back, e)
			}
		}
		if there, e := profile.Give(p, on, c, from, to); e == api.OK {
			if back, e := profile.Take(there, on, c, from, to); e != api.OK || !same(back, p) {
				t.Fatalf("Give(%v, %b, %d, %d, %d) = %v, and back: %v, %d", p, on, c, from, to, there, back, e)
			}
		}
		return told
	}
	d := dice(7)
	there := 0
	for range 20000 {
		p := d.profile(8, 10)
		from, to := d.time(p, last), d.time(p, last)
		if check(p, d.set()&first(len(p)), d.below(4), from, to) {
			there++
		}
	}
	if there < 2000 {
		t.Errorf("the test is wrong: %d Takes are told", there)
	}
	for _, cases := range []map[string]changeCase{takes(), gives()} {
		for _, c := range cases {
			check(c.p, c.on, c.c, c.from, c.to)
		}
	}
	for name, p := range rightProfiles() {
		for _, on := range []api.Set{0, 1, first(len(p))} {
			if !check(p, on, 0, 0, last) || !check(p, on, 0, 10, 20) {
				t.Errorf("%s: no cores can't be taken", name)
			}
		}
	}
}

// P12.5: a job that is put where Fit tells can be taken there; so can all others that are put there one behind the other, and given back.
func TestFitsCanBeTaken(t *testing.T) {
	d := dice(8)
	taken := 0
	for range 20000 {
		p := d.profile(8, 10)
		a := d.ask(p)
		at, on, e := profile.Fit(p, a)
		if e != api.OK {
			continue
		}
		q, e := profile.Take(p, on, a.Cores, at, at+a.Limit)
		if e != api.OK || !isRight(q) {
			t.Fatalf("Fit(%v, %+v) = %d, %b: taken: %d", p, a, at, on, e)
		}
		taken++
		back, e := profile.Give(q, on, a.Cores, at, at+a.Limit)
		if e != api.OK || !same(back, p) {
			t.Fatalf("Fit(%v, %+v) = %d, %b: given back: %d", p, a, at, on, e)
		}
	}
	if taken < 5000 {
		t.Errorf("the test is wrong: %d are taken", taken)
	}
}

// P12.5: where nodes have as many cuts as may be, what fits is never too many cores; a cut more is ErrFull, as P12.3 says.
func TestFitsOfMaxCutsCanBeTaken(t *testing.T) {
	p := stuck()
	for _, c := range []struct {
		a   api.Ask
		at  int64
		on  api.Set
		err api.Errno
	}{
		{ask(1, 4, 10, 0, 1), 10, 1, api.OK},
		{ask(1, 9, 10, 0, 1), 10, 1, api.OK},
		{ask(1, 4, 9, 0, 1), 10, 1, api.ErrFull},
		{ask(2, 4, 9, 0, 3), 10, 3, api.ErrFull},
		{ask(1, 4, 9, 0, 2), 0, 2, api.OK},
		{ask(1, 4, 11, 0, 1), 40950, 1, api.ErrFull},
	} {
		at, on, e := profile.Fit(p, c.a)
		if at != c.at || on != c.on || e != api.OK {
			t.Errorf("%+v: %d, %b, %d", c.a, at, on, e)
		}
		if _, e := profile.Take(p, on, c.a.Cores, at, at+c.a.Limit); e != c.err {
			t.Errorf("%+v: taken: %d, not %d", c.a, e, c.err)
		}
	}
}

// P12.2, P12.4 and P12.5: the calls agree: where Fit tells, Free tells the same nodes, and no block has them; a tick ahead there are too few.
func TestCallsAgree(t *testing.T) {
	d := dice(9)
	for range 20000 {
		p := d.profile(8, 10)
		a := d.ask(p)
		at, on, e := profile.Fit(p, a)
		if e != api.OK {
			continue
		}
		open := func(t int64) api.Set {
			free, _ := profile.Free(p, a.Nodes, t, t+a.Limit, a.Cores)
			for _, b := range a.Blocks {
				if b.From < t+a.Limit && t < b.To {
					free &^= b.Nodes
				}
			}
			return free
		}
		if bits.OnesCount32(uint32(on)) != a.Count || on&^open(at) != 0 || on&^a.Nodes != 0 || at < a.From || at > maxTime {
			t.Fatalf("Fit(%v, %+v) = %d, %b", p, a, at, on)
		}
		if at > a.From && bits.OnesCount32(uint32(open(at-1))) >= a.Count {
			t.Fatalf("Fit(%v, %+v) = %d, but it fits a tick ahead", p, a, at)
		}
		if again, same, e := profile.Fit(p, api.Ask{Count: a.Count, Cores: a.Cores, Limit: a.Limit, From: at, Nodes: on, Blocks: a.Blocks}); again != at || same != on || e != api.OK {
			t.Fatalf("Fit(%v, %+v) = %d, %b, from there %d, %b, %d", p, a, at, on, again, same, e)
		}
	}
}

// P12.5: jobs that are put where Fit tells, one behind the other, fill nodes up, and never beyond their cores.
func TestNodesFillUp(t *testing.T) {
	p, _ := profile.New([]int{4, 4, 8})
	d := dice(10)
	type job struct {
		a  api.Ask
		at int64
		on api.Set
	}
	var jobs []job
	for range 300 {
		a := ask(1+d.below(3), 1+d.below(4), 1+int64(d.below(20)), int64(d.below(50)), 7, 2, 60, 90)
		at, on, e := profile.Fit(p, a)
		if e != api.OK {
			t.Fatalf("%+v: %d", a, e)
		}
		if p, e = profile.Take(p, on, a.Cores, at, at+a.Limit); e != api.OK {
			t.Fatalf("%+v: taken: %d", a, e)
		}
		jobs = append(jobs, job{a, at, on})
	}
	for node, cores := range []int{4, 4, 8} {
		for tick := range int64(3000) {
			used := 0
			for _, j := range jobs {
				if has(j.on, node) && j.at <= tick && tick < j.at+j.a.Limit {
					used += j.a.Cores
				}
			}
			if used > cores || used > 0 && node == 1 && tick >= 60 && tick < 90 || valueAt(p[node], tick) != cores-used {
				t.Fatalf("node %d at %d: %d used, %v", node, tick, used, p[node])
			}
		}
	}
	var e api.Errno
	for _, j := range jobs {
		if p, e = profile.Give(p, j.on, j.a.Cores, j.at, j.at+j.a.Limit); e != api.OK {
			t.Fatalf("%+v: given back: %d", j, e)
		}
	}
	if !same(p, flats(4, 4, 8)) {
		t.Errorf("all given back: %v", p)
	}
}

// The chapter's examples, word by word.
func TestExamples(t *testing.T) {
	two, e := profile.New([]int{4, 4})
	if e != api.OK || !same(two, flats(4, 4)) {
		t.Errorf("%v, %d", two, e)
	}
	p, e := profile.Take(two, 1, 3, 0, 10)
	if e != api.OK || !same(p, of(fn(0, 1, 10, 4), fn(0, 4))) {
		t.Errorf("%v, %d", p, e)
	}
	for name, c := range map[string]fitCase{
		"1: 1 node":           {p, ask(1, 2, 5, 0, 3), 0, 2, api.OK},
		"1: 2 nodes":          {p, ask(2, 2, 5, 0, 3), 10, 3, api.OK},
		"1: 2 nodes, 1 core":  {p, ask(2, 1, 5, 0, 3), 0, 3, api.OK},
		"1: 3 nodes":          {p, ask(3, 2, 5, 0, 3), 0, 0, api.ErrOver},
		"2: a block, limit 5": {p, ask(1, 2, 5, 0, 3, 2, 3, 20), 10, 1, api.OK},
		"2: a block, limit 3": {p, ask(1, 2, 3, 0, 3, 2, 3, 20), 0, 2, api.OK},
	} {
		c.check(t, name)
	}
	if q, e := profile.Take(p, 4, 1, 0, 10); e != api.ErrArg || len(q) != 0 {
		t.Errorf("2: Take of node 2: %v, %d", q, e)
	}
	if q, e := profile.Take(p, 1, 2, 9, 11); e != api.ErrOver || len(q) != 0 {
		t.Errorf("2: Take of node 0: %v, %d", q, e)
	}
}
