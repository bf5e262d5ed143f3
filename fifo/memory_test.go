package fifo_test

import (
	"cmp"
	"math"
	"reflect"
	"runtime"
	"slices"
	"strconv"
	"strings"
	"sync"
	"testing"
	"unsafe"

	"muster/api"
	"muster/fifo"
)

// roomy is l with others ahead of it and behind it, in its spare room.
func roomy[T any](l []T, other T) (whole, part []T) {
	whole = append(whole, other, other, other)
	whole = append(whole, l...)
	whole = append(whole, other, other, other)
	return whole, whole[3 : 3+len(l)]
}

// handed is all lists that a call is handed, each with what stands ahead of it and behind it.
type handed struct {
	cores    []int
	parts    []api.Part
	names    [][]string
	accounts []api.Account
	qos      []api.Qos
	nodes    []api.Node
	jobs     []api.Job
	deps     [][]api.Dep
	resvs    []api.Resv
	promises []api.Promise
}

// handing is a copy of s whose lists all have others in their spare room, and all that a call could change of it.
func handing(s api.State) (handed, api.State) {
	s = anew(s)
	var h handed
	names := func(l *[]string) {
		var whole []string
		whole, *l = roomy(*l, "all")
		h.names = append(h.names, whole)
	}
	for i := range s.Config.Parts {
		names(&s.Config.Parts[i].Accounts)
	}
	for i := range s.Resvs {
		names(&s.Resvs[i].Accounts)
	}
	for i := range s.Jobs {
		var whole []api.Dep
		whole, s.Jobs[i].Spec.Deps = roomy(s.Jobs[i].Spec.Deps, good(1))
		h.deps = append(h.deps, whole)
	}
	h.cores, s.Config.Cores = roomy(s.Config.Cores, 4)
	h.parts, s.Config.Parts = roomy(s.Config.Parts, api.Part{Name: "x", Nodes: 1, MaxLimit: 9})
	h.accounts, s.Config.Accounts = roomy(s.Config.Accounts, api.Account{Name: "x"})
	h.qos, s.Config.Qos = roomy(s.Config.Qos, api.Qos{Name: "x"})
	h.nodes, s.Nodes = roomy(s.Nodes, api.Node{Cores: 4, Up: true, Epoch: 1})
	h.jobs, s.Jobs = roomy(s.Jobs, waits(s.Next, 1, 1, 1))
	h.resvs, s.Resvs = roomy(s.Resvs, held("x", 1, 0, 9, "all"))
	h.promises, s.Promises = roomy(s.Promises, api.Promise{Id: s.Next, On: 1})
	return h, s
}

// askAll makes all calls, with what is answered and what is refused.
func askAll(s api.State) {
	fifo.Right(s)
	fifo.Profile(s)
	fifo.Pass(s)
	for _, j := range s.Jobs {
		fifo.May(s, j)
		fifo.Ask(s, j)
		for node := range 3 {
			fifo.Put(s, api.Start{Id: j.Id, On: 1 << node})
		}
		fifo.Put(s, api.Start{Id: j.Id, On: 3})
	}
	fifo.Put(s, api.Start{Id: s.Next, On: 1})
	fifo.Pass(s)
}

// R3: what is handed in is not changed, nor its spare room, nor what stands ahead of it; be it answered or refused.
func TestHandedInIsLeft(t *testing.T) {
	check := func(what string, s api.State) {
		t.Helper()
		h, in := handing(s)
		before, _ := handing(s)
		askAll(in)
		if !reflect.DeepEqual(h, before) || !same(in, s) {
			t.Fatalf("%s: %v: changed", what, s)
		}
	}
	for _, all := range of(rightChanges(), wrongConfigs(), wrongTimes(), wrongNodes(), wrongJobs()) {
		for name, change := range all {
			s := rich()
			change(&s)
			check(name, s)
		}
	}
	check("nothing", api.State{})
	d := dice(11)
	for range 2500 {
		s := d.state()
		check("any", s)
		d.bend(&s)
		check("any, bent", s)
	}
}

// R3: what stands in spare room counts for nothing.
func TestSpareRoomIsNotAsked(t *testing.T) {
	d := dice(12)
	for range 3000 {
		s := d.state()
		_, in := handing(s)
		starts, e := fifo.Pass(in)
		p, f := fifo.Profile(in)
		if e != api.OK || f != api.OK || !slices.Equal(starts, passOf(s)) || !sameProfile(p, profileOf(s)) {
			t.Fatalf("%v: %v, %d, %v, %d", s, starts, e, p, f)
		}
		for i, j := range in.Jobs {
			if fifo.May(in, j) != mayOf(s, s.Jobs[i]) || !sameAsk(fifo.Ask(in, j), askOf(s, s.Jobs[i])) {
				t.Fatalf("%v: %v", s, j)
			}
			x := api.Start{Id: j.Id, On: 1}
			want, err := putOf(s, x)
			if next, g := fifo.Put(in, x); g != err || !same(next, want) {
				t.Fatalf("%v: Put of %v: %v, %d", s, x, next, g)
			}
		}
	}
}

// spoil puts another one into each place of l, and into its spare room.
func spoil[T any](l []T, other T) {
	l = l[:cap(l)]
	for i := range l {
		l[i] = other
	}
}

// spoilState spoils all lists of s, the ones within others first.
func spoilState(s api.State) {
	for _, p := range s.Config.Parts {
		spoil(p.Accounts, "spoilt")
	}
	for _, j := range s.Jobs {
		spoil(j.Spec.Deps, bad(-7))
	}
	for _, r := range s.Resvs {
		spoil(r.Accounts, "spoilt")
	}
	spoil(s.Config.Cores, -7)
	spoil(s.Config.Parts, api.Part{Name: "spoilt"})
	spoil(s.Config.Accounts, api.Account{Name: "spoilt"})
	spoil(s.Config.Qos, api.Qos{Name: "spoilt"})
	spoil(s.Nodes, api.Node{Cores: -7})
	spoil(s.Jobs, api.Job{Id: -7})
	spoil(s.Resvs, api.Resv{Name: "spoilt"})
	spoil(s.Promises, api.Promise{Id: -7})
}

// told is what the calls tell of a state, and of one start.
type told struct {
	free   [][]api.Cut
	next   api.State
	starts []api.Start
	blocks []api.Block
}

// tell asks all calls that tell lists.
func tell(t *testing.T, s api.State) told {
	t.Helper()
	free, e := fifo.Profile(s)
	next, f := fifo.Put(s, api.Start{Id: 8, On: 2})
	starts, g := fifo.Pass(s)
	if e != api.OK || f != api.OK || g != api.OK {
		t.Fatalf("%d, %d, %d", e, f, g)
	}
	return told{free, next, starts, fifo.Ask(s, waits(20, 1, 1, 1)).Blocks}
}

// spoilTold spoils all that was told.
func spoilTold(x told) {
	for _, l := range x.free {
		spoil(l, api.Cut{At: -7, Free: -7})
	}
	spoil(x.free, nil)
	spoilState(x.next)
	spoil(x.starts, api.Start{Id: -7})
	spoil(x.blocks, api.Block{From: -7})
}

// starting is rich, of which jobs 6 and 8 may start.
func starting() api.State {
	s := rich()
	s.Jobs[theRunning].Spec.Cores = 1
	s.Jobs[theOther].Spec.Deps = of(good(1), bad(2))
	s.Jobs[theOther].Spec.Account = "phys"
	s.Jobs[thePending].Spec.Nodes = 1
	s.Promises[0].On = 1
	s.Config.Parts[1].Accounts = of("phys", "bio")
	s.Resvs[0].To, s.Resvs[1].Accounts = 65, of("bio", "lab")
	return s
}

// check holds what was told against what is to be told of starting.
func (x told) check(t *testing.T, what string) {
	t.Helper()
	s := starting()
	next, e := putOf(s, api.Start{Id: 8, On: 2})
	if e != api.OK || !same(x.next, next) {
		t.Fatalf("%s: %v, not %v", what, x.next, next)
	}
	if !sameProfile(x.free, profileOf(s)) || !slices.Equal(x.starts, of(on(6, 1), on(8, 2))) || !slices.Equal(x.blocks, of(api.Block{Nodes: 1, From: 90, To: 99})) {
		t.Fatalf("%s: %v", what, x)
	}
}

// R3: what was handed in is not kept: whatever becomes of it, earlier answers and later calls tell the same.
func TestHandedInIsNotKept(t *testing.T) {
	for range 3 {
		s := starting()
		first := tell(t, s)
		first.check(t, "at first")
		spoilState(s)
		first.check(t, "what was handed in is spoilt")
		if fifo.Right(s) {
			t.Error("it is another one now")
		}
		tell(t, starting()).check(t, "again")
	}
}

// R3: what was told is the caller's own: changed, it changes nothing else that was told, nor what was handed in.
func TestToldIsNotKept(t *testing.T) {
	s := starting()
	for range 3 {
		a, b := tell(t, s), tell(t, s)
		spoilTold(a)
		b.check(t, "what was told is spoilt")
		if !same(s, starting()) {
			t.Fatalf("what was handed in is %v", s)
		}
	}
}

// reach is where a list's memory begins and ends, its spare room too.
type reach struct{ from, to uintptr }

func reachOf[T any](l []T) reach {
	var one T
	from := uintptr(unsafe.Pointer(unsafe.SliceData(l)))
	return reach{from, from + uintptr(cap(l))*unsafe.Sizeof(one)}
}

// reachesOf are those of all lists of a state.
func reachesOf(s api.State) []reach {
	l := of(reachOf(s.Config.Cores), reachOf(s.Config.Parts), reachOf(s.Config.Accounts), reachOf(s.Config.Qos), reachOf(s.Nodes), reachOf(s.Jobs), reachOf(s.Resvs), reachOf(s.Promises))
	for _, p := range s.Config.Parts {
		l = append(l, reachOf(p.Accounts))
	}
	for _, j := range s.Jobs {
		l = append(l, reachOf(j.Spec.Deps))
	}
	for _, r := range s.Resvs {
		l = append(l, reachOf(r.Accounts))
	}
	return l
}

// R3: no two lists of answers share memory, nor any with what was handed in; spare room too.
func TestListsAreApart(t *testing.T) {
	s := starting()
	_, spare := handing(s)
	all := append(reachesOf(s), reachesOf(spare)...)
	var kept []told // so that no memory is let go, and used again
	for _, s := range of(s, spare, s, spare) {
		x := tell(t, s)
		kept = append(kept, x)
		all = append(all, reachOf(x.free), reachOf(x.starts), reachOf(x.blocks))
		for _, l := range x.free {
			all = append(all, reachOf(l))
		}
		all = append(all, reachesOf(x.next)...)
	}
	all = slices.DeleteFunc(all, func(r reach) bool { return r.from == r.to })
	slices.SortFunc(all, func(a, b reach) int { return cmp.Compare(a.from, b.from) })
	if len(all) < 80 {
		t.Errorf("the test is wrong: %d lists", len(all))
	}
	for i := 1; i < len(all); i++ {
		if all[i-1].to > all[i].from {
			t.Fatalf("two lists share memory: %v, %v", all[i-1], all[i])
		}
	}
	runtime.KeepAlive(kept)
	runtime.KeepAlive(spare)
}

// R6: no list and an empty one are the same.
func TestEmptyAndNone(t *testing.T) {
	s := with(5, waits(1, 1, 1, 10), waits(2, 1, 1, 10))
	s.Jobs[0].Spec.Deps, s.Resvs, s.Promises = []api.Dep{}, []api.Resv{}, []api.Promise{}
	s.Config.Parts[0].Accounts = []string{}
	checkPass(t, "empty lists", s, on(1, 1), on(2, 1))
	checkRight(t, "empty lists", s, true)
	checkPut(t, "empty lists", s, on(2, 2), api.OK)
	checkMay(t, "empty lists", s, s.Jobs[0], true)
	checkAsk(t, "empty lists", s, s.Jobs[0], 3)
	s.Jobs = []api.Job{}
	checkPass(t, "an empty list of jobs", s)
	none := api.State{Config: api.Config{Cores: []int{}, Parts: []api.Part{}, Accounts: []api.Account{}, Qos: []api.Qos{}}, Nodes: []api.Node{}, Jobs: []api.Job{}, Next: 1}
	checkRight(t, "all lists empty", none, false)
}

// R4: an answer hangs on the arguments alone, not on what was asked ahead of it, nor on how many ask at one time.
func TestManyCallersAtOnce(t *testing.T) {
	d := dice(13)
	var states []api.State
	for range 100 {
		states = append(states, d.state())
	}
	var group sync.WaitGroup
	for k := range 8 {
		group.Go(func() {
			d := dice(k)
			for range 300 {
				s := one(&d, states)
				x := api.Start{Id: d.below(20), On: d.nodes(1, len(s.Nodes))}
				starts, e := fifo.Pass(s)
				p, f := fifo.Profile(s)
				next, g := fifo.Put(s, x)
				want, err := putOf(s, x)
				if e != api.OK || f != api.OK || g != err || !slices.Equal(starts, passOf(s)) || !sameProfile(p, profileOf(s)) || !same(next, want) || !fifo.Right(s) {
					t.Errorf("%v: %v, %d, %v, %d, %v, %d", s, starts, e, p, f, next, g)
					return
				}
			}
		})
	}
	group.Wait()
}

// R1: long lists and long texts are answered, too.
func TestLongArgumentsEnd(t *testing.T) {
	s := empty(9)
	count := 1 << 16
	for i := range count {
		s.Jobs = append(s.Jobs, over(waits(i+1, 1, 1, 10), api.Completed, 1, 0, 9))
	}
	s.Jobs = append(s.Jobs, waits(count+1, 2, 4, 10, good(count), anyEnd(1)))
	s.Next = count + 2
	starts, e := fifo.Pass(s)
	next, f := fifo.Put(s, on(count+1, 3))
	if e != api.OK || f != api.OK || !slices.Equal(starts, of(on(count+1, 3))) || len(next.Jobs) != count+1 || !fifo.May(s, s.Jobs[count]) {
		t.Errorf("many jobs: %v, %d, %d", starts, e, f)
	}
	long := strings.Repeat("a", 1<<20)
	refused := func(what string, change change) {
		t.Helper()
		s := rich()
		change(&s)
		if fifo.Right(s) {
			t.Errorf("%s: it is right", what)
		}
		askAll(s)
	}
	refused("many pending", func(s *api.State) {
		s.Jobs = slices.Repeat(of(waits(1, 1, 1, 1)), 1000)
		for i := range s.Jobs {
			s.Jobs[i].Id = i + 1
		}
		s.Next, s.Promises = 1001, nil
	})
	refused("many promises", func(s *api.State) { s.Promises = slices.Repeat(s.Promises[:1], count) })
	refused("many reservations", func(s *api.State) { s.Resvs = slices.Repeat(s.Resvs[:1], count) })
	refused("many nodes", func(s *api.State) { s.Nodes = slices.Repeat(s.Nodes[:1], count) })
	refused("many partitions", func(s *api.State) { s.Config.Parts = slices.Repeat(s.Config.Parts[:1], count) })
	refused("many accounts", func(s *api.State) { s.Config.Accounts = slices.Repeat(s.Config.Accounts[:1], count) })
	refused("a long name", func(s *api.State) { s.Jobs[thePending].Spec.User = long })
	refused("a long partition", func(s *api.State) { s.Jobs[thePending].Spec.Part = long })
	refused("a long account", func(s *api.State) { s.Config.Accounts[3].Name = long })
}

// R1: whatever stands in the places of a state, no call panics.
func TestWildArgumentsEnd(t *testing.T) {
	d := dice(14)
	n := func() int { return int(d.number()) }
	job := func() api.Job {
		j := api.Job{Id: n(), Of: n(), Index: n(), State: api.JobState(d.below(10)), Submit: d.number(), Start: d.number(), End: d.number(), On: api.Set(d.next()), Exit: n()}
		j.Spec = api.Spec{User: "ann", Account: "a0", Qos: "q" + strconv.Itoa(d.below(2)), Part: "p0", Nodes: n(), Cores: n(), Limit: d.number(), Deps: of(api.Dep{Kind: api.DepKind(d.below(5)), Id: n()})}
		return j
	}
	for range 20000 {
		s := d.state()
		for range 1 + d.below(3) {
			switch d.below(6) {
			case 0:
				s.Now, s.Next = d.number(), n()
			case 1:
				s.Nodes = slices.Repeat(of(api.Node{Cores: n(), Up: true, Epoch: n()}), d.below(50))
			case 2:
				s.Jobs = append(s.Jobs, job(), job())
			case 3:
				s.Resvs = append(s.Resvs, held("r", api.Set(d.next()), d.number(), d.number(), "a0", "?"))
			case 4:
				s.Promises = append(s.Promises, api.Promise{Id: n(), Start: d.number(), On: api.Set(d.next())})
			case 5:
				s.Config.Parts[0].Nodes, s.Config.Accounts[0].Limit, s.Config.Qos[0].Limit = api.Set(d.next()), n(), n()
			}
		}
		j := job()
		want := isRight(s)
		if is := fifo.Right(s); is != want {
			t.Fatalf("%v: %v", s, is)
		}
		askAll(s)
		fifo.May(s, j)
		fifo.Ask(s, j)
		fifo.Put(s, api.Start{Id: n(), On: math.MaxUint32})
		fifo.Put(s, api.Start{Id: j.Id, On: j.On})
	}
}
