package profile_test

import (
	"cmp"
	"runtime"
	"slices"
	"sync"
	"testing"
	"unsafe"

	"muster/api"
	"muster/profile"
)

// askAll makes all calls upon p and a, with arguments that are answered and with some that are refused.
func askAll(p [][]api.Cut, a api.Ask) {
	profile.Right(p)
	for _, w := range [][2]int64{{0, 1}, {0, 10}, {5, 15}, {10, 20}, {0, last}, {10, 10}, {-1, 5}, {0, last + 1}} {
		for _, on := range []api.Set{0, 1, 2, 3, node31, every} {
			for _, c := range []int{0, 1, 3, most, -1, most + 1} {
				profile.Free(p, on, w[0], w[1], c)
				profile.Take(p, on, c, w[0], w[1])
				profile.Give(p, on, c, w[0], w[1])
			}
		}
	}
	profile.Fit(p, a)
	for _, count := range []int{0, 1, 2, maxNodes} {
		for _, cores := range []int{0, 1, 3, maxCores} {
			a.Count, a.Cores = count, cores
			profile.Fit(p, a)
		}
	}
}

// roomy is l with other elements ahead of it and behind it, in its spare room.
func roomy[T any](l []T, other T) (whole, part []T) {
	whole = append(whole, other, other, other)
	whole = append(whole, l...)
	whole = append(whole, other, other, other)
	return whole, whole[3 : 3+len(l)]
}

// R3: what is handed in is not changed, nor its spare room, nor what stands ahead of it: profiles, their step functions, blocks, cores.
func TestHandedInIsLeft(t *testing.T) {
	unsorted := blocks(1, 20, 30, 2, 5, 40, 3, 5, 6, 1, 0, 7, 2, 3, 4, 0, 9, 10)
	check := func(name string, p [][]api.Cut) {
		marker := fn(-7, -9)
		var wholes, parts [][]api.Cut
		for _, s := range p {
			whole, part := roomy(s, api.Cut{At: -7, Free: -9})
			wholes, parts = append(wholes, whole), append(parts, part)
		}
		outer, handed := roomy(parts, marker)
		allBlocks, some := roomy(unsorted, api.Block{Nodes: 77, From: -7, To: -9})
		a := api.Ask{Count: 1, Cores: 1, Limit: 5, From: 2, Nodes: every, Blocks: some}
		beforeWholes, beforeOuter, beforeBlocks := copyOf(wholes), copyOf(outer), slices.Clone(allBlocks)
		askAll(handed, a)
		if !same(wholes, beforeWholes) || !same(outer, beforeOuter) || !slices.Equal(allBlocks, beforeBlocks) {
			t.Errorf("%s: changed", name)
		}
		for i, s := range handed {
			if unsafe.SliceData(s) != unsafe.SliceData(parts[i]) || len(s) != len(parts[i]) || cap(s) != cap(parts[i]) {
				t.Errorf("%s: another list stands in it", name)
			}
		}
	}
	for name, p := range rightProfiles() {
		if len(p) < maxNodes { // the greatest ones are asked elsewhere
			check(name, p)
		}
	}
	for name, p := range wrongProfiles() {
		if len(p) <= 3 {
			check(name, p)
		}
	}
	for _, cores := range [][]int{{4}, {4, 8}, {0}, {4, 65}, times(maxNodes, 4), times(maxNodes+1, 4), nil} {
		whole, part := roomy(cores, -7)
		before := slices.Clone(whole)
		profile.New(part)
		if !slices.Equal(whole, before) {
			t.Errorf("New of %v: changed", cores)
		}
	}
}

// spoil puts other numbers into all of p, and into its spare room.
func spoil(p [][]api.Cut) {
	for _, s := range p[:cap(p)] {
		s = s[:cap(s)]
		for i := range s {
			s[i] = api.Cut{At: 77, Free: 77}
		}
	}
	clear(p[:cap(p)])
}

// R3: what was handed in is not kept: whatever becomes of it, earlier answers and later calls tell the same.
func TestHandedInIsNotKept(t *testing.T) {
	start := func() [][]api.Cut { return of(fn(0, 1, 10, 4), fn(0, 4), fn(0, 4, 5, 2)) }
	for _, on := range []api.Set{0, 1, 2, 4, 5, 7} {
		p := start()
		taken, e := profile.Take(p, on, 1, 3, 12)
		given, f := profile.Give(p, on, 1, 3, 12)
		wantTaken, wantGiven := copyOf(taken), copyOf(given)
		spoil(p)
		if e != api.OK || f != api.OK || !same(taken, wantTaken) || !same(given, wantGiven) {
			t.Errorf("%b: %v, %d, %v, %d", on, taken, e, given, f)
		}
		again, e := profile.Take(start(), on, 1, 3, 12)
		more, f := profile.Give(start(), on, 1, 3, 12)
		if e != api.OK || f != api.OK || !same(again, wantTaken) || !same(more, wantGiven) {
			t.Errorf("%b: again: %v, %d, %v, %d", on, again, e, more, f)
		}
		if profile.Right(p) {
			t.Errorf("%b: is right: %v", on, p)
		}
	}
	cores := []int{4, 8}
	p, e := profile.New(cores)
	cores[0], cores[1] = 1, 2
	if e != api.OK || !same(p, flats(4, 8)) {
		t.Errorf("New: %v, %d", p, e)
	}
	a := ask(1, 2, 5, 0, 3, 2, 3, 20)
	fitCase{start()[:2], a, 10, 1, api.OK}.check(t, "a block")
	a.Blocks[0] = api.Block{Nodes: 3, From: 0, To: 50}
	fitCase{start()[:2], a, 50, 1, api.OK}.check(t, "the block is another one")
}

// R3: what was told is the caller's own: changed, it changes no later answer.
func TestToldIsNotKept(t *testing.T) {
	handed := of(fn(0, 1, 10, 4), fn(0, 4))
	for range 3 {
		p, e := profile.New([]int{4, 8})
		taken, f := profile.Take(handed, 2, 3, 0, 10)
		given, g := profile.Give(handed, 1, 3, 0, 10)
		if e != api.OK || f != api.OK || g != api.OK || !same(p, flats(4, 8)) || !same(taken, of(fn(0, 1, 10, 4), fn(0, 1, 10, 4))) || !same(given, flats(4, 4)) {
			t.Fatalf("%v, %d, %v, %d, %v, %d", p, e, taken, f, given, g)
		}
		spoil(p)
		spoil(taken)
		spoil(given)
		if !same(handed, of(fn(0, 1, 10, 4), fn(0, 4))) {
			t.Fatalf("what was handed in is %v", handed)
		}
	}
}

// reach is where a list's memory begins and ends, its spare room too.
type reach struct{ from, to uintptr }

func reachOf[T any](l []T) reach {
	var one T
	from := uintptr(unsafe.Pointer(unsafe.SliceData(l)))
	return reach{from, from + uintptr(cap(l))*unsafe.Sizeof(one)}
}

// R3: no two lists of answers share memory, nor any with what was handed in; spare room too. Nor do two nodes of one answer.
func TestListsAreApart(t *testing.T) {
	var all []reach
	var kept [][][]api.Cut // so that no memory is let go, and used again
	told := func(p [][]api.Cut, e api.Errno) {
		if e != api.OK || len(p) == 0 {
			t.Fatalf("%d nodes, %d", len(p), e)
		}
		kept = append(kept, p)
		all = append(all, reachOf(p))
		for _, s := range p {
			all = append(all, reachOf(s))
		}
	}
	handed := of(append(make([]api.Cut, 0, 64), fn(0, 1, 10, 4)...), fn(0, 4), fn(0, 4))
	full := stuck()
	told(handed, api.OK)
	told(full, api.OK)
	for range 2 {
		told(profile.New([]int{4, 4, 4}))
		told(profile.New(times(maxNodes, maxCores)))
		for _, on := range []api.Set{0, 1, 2, 6, 7} {
			for _, c := range []int{0, 1} {
				told(profile.Take(handed, on, c, 0, 10))
				told(profile.Give(handed, on, c, 0, 10))
				told(profile.Give(handed, on, 3*c, 5, last))
			}
		}
		told(profile.Take(full, 3, 0, 5, 15))
		told(profile.Take(full, 2, 1, 5, 15))
		told(profile.Give(full, 3, 1, 0, 10))
	}
	slices.SortFunc(all, func(a, b reach) int { return cmp.Compare(a.from, b.from) })
	for i := 1; i < len(all); i++ {
		if all[i].from < all[i-1].to {
			t.Errorf("lists share memory: %v, %v", all[i-1], all[i])
		}
	}
	runtime.KeepAlive(kept)
}

// R4: answers hang on nothing but the arguments: many callers of one profile at one time are told the same as one.
func TestManyCallersAtOnce(t *testing.T) {
	d := dice(11)
	shared := d.profile(12, 30)
	asks := make([]api.Ask, 50)
	for i := range asks {
		asks[i] = d.ask(shared)
	}
	var group sync.WaitGroup
	for k := range 8 {
		group.Add(1)
		go func() {
			defer group.Done()
			d := dice(k)
			for range 300 {
				a := asks[d.below(len(asks))]
				at, on, e := profile.Fit(shared, a)
				wantAt, wantOn, want := fitOf(shared, a)
				free, f := profile.Free(shared, a.Nodes, a.From, a.From+a.Limit, a.Cores)
				q, g := profile.Give(shared, 1, a.Cores, a.From, a.From+a.Limit)
				given, h := changed(shared, 1, a.Cores, a.From, a.From+a.Limit)
				if at != wantAt || on != wantOn || e != want || free != freeOf(shared, a.Nodes, a.From, a.From+a.Limit, a.Cores) || f != api.OK || g != h || !same(q, given) {
					t.Errorf("%+v: %d, %b, %d, %b, %d, %d", a, at, on, e, free, f, g)
					return
				}
			}
		}()
	}
	group.Wait()
}
