package fifo_test

import (
	"slices"
	"strconv"
	"testing"

	"muster/api"
	"muster/fifo"
)

// putAll puts starts into a right state, one behind the other, and holds each against what must be so when it comes: the cores, the limits, the reservations, what the job waits for, the nodes.
func putAll(t *testing.T, s api.State, starts []api.Start) api.State {
	t.Helper()
	for _, x := range starts {
		i := slices.IndexFunc(s.Jobs, func(j api.Job) bool { return j.Id == x.Id })
		if i < 0 || !mayOf(s, s.Jobs[i]) {
			t.Fatalf("%v: %v may not start", s, x)
		}
		a := askOf(s, s.Jobs[i])
		if countOf(x.On) != a.Count || x.On&^a.Nodes != 0 {
			t.Fatalf("%v: %v: these are not its nodes", s, x)
		}
		for _, b := range a.Blocks {
			if b.Nodes&x.On != 0 && b.From < s.Now+a.Limit && s.Now < b.To {
				t.Fatalf("%v: %v meets %v", s, x, b)
			}
		}
		next, e := fifo.Put(s, x)
		if e != api.OK || !fifo.Right(next) || !fit(next) || next.Jobs[i].State != api.Running || next.Jobs[i].Start != s.Now || next.Jobs[i].On != x.On {
			t.Fatalf("%v: %v can't be put: %v, %d", s, x, next, e)
		}
		s = next
	}
	return s
}

// P22.4: all starts of a pass can be put, one behind the other; nothing is passed by that.
func TestStartsCanBePut(t *testing.T) {
	d := dice(8)
	puts, many := 0, 0
	for range 20000 {
		s := d.state()
		starts, e := fifo.Pass(s)
		if e != api.OK {
			t.Fatalf("%v: %d", s, e)
		}
		behind := putAll(t, s, starts)
		puts += len(starts)
		if len(starts) > 2 {
			many++
		}
		again, e := fifo.Pass(behind)
		if e != api.OK || len(again) > 0 {
			t.Fatalf("%v: behind its pass there is another one: %v, %d", s, again, e)
		}
	}
	if puts < 8000 || many < 500 {
		t.Errorf("the test is wrong: %d puts, %d times many", puts, many)
	}
}

// P22.4: of the queue nobody behind the first job that waits for room has started; each starts once, and in the queue's order.
func TestNobodyBehindTheFirstThatWaits(t *testing.T) {
	d := dice(9)
	held := 0
	for range 20000 {
		s := d.state()
		starts, e := fifo.Pass(s)
		_, waiting := walk(s)
		place := -1
		stop := len(s.Jobs)
		for place, i := range queueOf(s) {
			if s.Jobs[i].Id == waiting {
				stop = place
			}
		}
		for _, x := range starts {
			at := slices.IndexFunc(queueOf(s), func(i int) bool { return s.Jobs[i].Id == x.Id })
			if at <= place || at >= stop || e != api.OK {
				t.Fatalf("%v: %v, %d: place %d behind %d, and %d waits in place %d", s, starts, e, at, place, waiting, stop)
			}
			place = at
		}
		if stop < len(queueOf(s))-1 {
			held++
		}
	}
	if held < 1000 {
		t.Errorf("the test is wrong: %d hold others up", held)
	}
}

// P22.4: the first that waits does so with each single core free that it needs but one.
func TestOneCoreTooFew(t *testing.T) {
	for cores := 1; cores <= 4; cores++ {
		for taken := 1; taken <= 4; taken++ {
			s := with(5, runs(waits(1, 2, taken, 10), 3, 0), waits(2, 1, cores, 10), waits(3, 1, 1, 1))
			l, e := fifo.Pass(s)
			want := of[api.Start]()
			if cores+taken <= 4 {
				want = append(want, on(2, 1))
				want = append(want, on(3, api.Set(1+min(1, (cores+taken)/4))))
			}
			if e != api.OK || !slices.Equal(l, want) {
				t.Errorf("%d cores beside %d: %v, %d, not %v", cores, taken, l, e, want)
			}
		}
	}
}

// life is a state that goes on by hand: jobs come, start by passes, and end.
type life struct {
	d *dice
	s api.State
}

// come adds a job.
func (l *life) come() {
	open := 0
	for _, j := range l.s.Jobs {
		if !isOver(j.State) {
			open++
		}
	}
	if open < maxJobs {
		j := api.Job{Id: l.s.Next, State: api.Pending, Submit: l.s.Now, Spec: l.d.spec(l.s.Config)}
		j.Spec.Deps = l.d.deps(j.Id)
		l.s.Jobs = append(l.s.Jobs, j)
		l.s.Next++
	}
}

// tick lets time go by; what is at its limit then is over.
func (l *life) tick() {
	l.s.Now += int64(1 + l.d.below(3))
	for i, j := range l.s.Jobs {
		if j.State == api.Running && until(j) <= l.s.Now {
			l.s.Jobs[i] = over(j, api.Timeout, j.On, j.Start, l.s.Now)
		}
	}
}

// end lets a job that runs be over.
func (l *life) end() {
	if i := l.d.below(len(l.s.Jobs) + 1); i < len(l.s.Jobs) && l.s.Jobs[i].State == api.Running {
		j := l.s.Jobs[i]
		l.s.Jobs[i] = over(j, one(l.d, of(api.Completed, api.Failed, api.Cancelled)), j.On, j.Start, l.s.Now)
	}
}

// P22.4: through long lives: every state is right, limits are never passed, nothing runs where it is kept out.
func TestLives(t *testing.T) {
	d := dice(10)
	puts := 0
	for range 60 {
		l := life{&d, api.State{Config: d.config(), Next: 1}}
		l.s.Nodes = upNodes(l.s.Config.Cores)
		l.s.Resvs = d.resvs(l.s.Config, 20)
		for range 60 {
			switch d.below(4) {
			case 0, 1:
				l.come()
			case 2:
				l.tick()
			case 3:
				l.end()
			}
			if !fifo.Right(l.s) {
				t.Fatalf("%v: is not right", l.s)
			}
			starts, e := fifo.Pass(l.s)
			if e != api.OK || !slices.Equal(starts, passOf(l.s)) {
				t.Fatalf("%v: %v, %d", l.s, starts, e)
			}
			l.s = putAll(t, l.s, starts)
			puts += len(starts)
			checkLife(t, l.s)
		}
	}
	if puts < 500 {
		t.Errorf("the test is wrong: %d puts", puts)
	}
}

// checkLife asks all that must be so of what runs in a state that has begun empty.
func checkLife(t *testing.T, s api.State) {
	t.Helper()
	account, cores, count := map[string]int{}, map[string]int{}, map[string]int{}
	for _, j := range s.Jobs {
		if j.State != api.Running {
			continue
		}
		for _, name := range pathOf(s.Config.Accounts, j.Spec.Account) {
			account[name] += j.Spec.Nodes * j.Spec.Cores
		}
		cores[j.Spec.Qos] += j.Spec.Nodes * j.Spec.Cores
		count[j.Spec.Qos]++
		for _, r := range s.Resvs {
			if !admits(s, r, j.Spec.Account) && r.Nodes&j.On != 0 && r.From < until(j) && j.Start < r.To {
				t.Fatalf("%v: %v runs within %v", s, j, r)
			}
		}
	}
	for _, a := range s.Config.Accounts {
		if a.Limit >= 0 && account[a.Name] > a.Limit {
			t.Fatalf("%v: %v has %d", s, a, account[a.Name])
		}
	}
	for _, q := range s.Config.Qos {
		if q.Limit >= 0 && cores[q.Name] > q.Limit || q.Jobs >= 0 && count[q.Name] > q.Jobs {
			t.Fatalf("%v: %v has %d, %d jobs", s, q, cores[q.Name], count[q.Name])
		}
	}
}

// P22.4: a queue of equal jobs starts in the order of its ids, as many as there is room for, and the others when these are over.
func TestQueueGoesThrough(t *testing.T) {
	s := empty(0)
	for i := range 20 {
		s.Jobs = append(s.Jobs, waits(i+1, 1, 2, 5))
	}
	s.Next = 21
	for round := range 5 {
		starts, e := fifo.Pass(s)
		var want []api.Start
		for i := range 4 {
			want = append(want, on(4*round+i+1, 1<<(i/2)))
		}
		if e != api.OK || !slices.Equal(starts, want) {
			t.Fatalf("round %s: %v, %d", strconv.Itoa(round), starts, e)
		}
		s = putAll(t, s, starts)
		s.Now += 5
		for i, j := range s.Jobs {
			if j.State == api.Running {
				s.Jobs[i] = over(j, api.Completed, j.On, j.Start, s.Now)
			}
		}
	}
	checkPass(t, "all are over", s)
}
