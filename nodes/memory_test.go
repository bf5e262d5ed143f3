package nodes_test

import (
	"cmp"
	"runtime"
	"slices"
	"sync"
	"testing"
	"unsafe"

	"muster/api"
	"muster/nodes"
)

// askAll makes all calls upon l, with arguments that are answered and with some that are refused.
func askAll(l []api.Node) {
	nodes.Right(l)
	nodes.Up(l)
	nodes.Cores(l)
	for _, asked := range []api.Set{0, 1, 3, node31, every} {
		for _, c := range manyCores {
			nodes.Able(l, asked, c)
		}
	}
	for _, i := range append(noPlaces(len(l)), 0, 1, 2, maxNodes-1, maxNodes, len(l)-1) {
		nodes.Fail(l, i)
		nodes.Rise(l, i)
	}
}

// roomy is l with other elements ahead of it and behind it, in its spare room.
func roomy[T any](l []T, other T) (whole, part []T) {
	whole = append(whole, other, other, other)
	whole = append(whole, l...)
	whole = append(whole, other, other, other)
	return whole, whole[3 : 3+len(l)]
}

// R3: what is handed in is not changed, nor its spare room, nor what stands ahead of it.
func TestHandedInIsLeft(t *testing.T) {
	for name, l := range allLists() {
		for _, other := range of(down(-7, -9), up(4, 1), down(4, 1)) {
			whole, part := roomy(l, other)
			before := slices.Clone(whole)
			askAll(part)
			if !slices.Equal(whole, before) {
				t.Errorf("%s: changed", name)
			}
		}
	}
	for _, cores := range [][]int{{4}, {4, 8}, {0}, {4, 65}, {-1, 4}, times(maxNodes, 4), times(maxNodes+1, 4), nil} {
		whole, part := roomy(cores, 5)
		before := slices.Clone(whole)
		nodes.New(part)
		if !slices.Equal(whole, before) {
			t.Errorf("New of %v: changed", cores)
		}
	}
}

// spoil puts another node into each place of l, and into its spare room.
func spoil(l []api.Node) {
	l = l[:cap(l)]
	for i := range l {
		l[i] = api.Node{Cores: 77, Up: !l[i].Up, Epoch: -77}
	}
}

// spoilCores puts another number into each place of l, and into its spare room.
func spoilCores(l []int) {
	l = l[:cap(l)]
	for i := range l {
		l[i] = -77
	}
}

// R3: what was handed in is not kept: whatever becomes of it, earlier answers and later calls tell the same.
func TestHandedInIsNotKept(t *testing.T) {
	start := func() []api.Node { return of(up(4, 1), down(8, 2), up(2, 3)) }
	failed := of(down(4, 1), down(8, 2), up(2, 3))
	risen := of(up(4, 1), up(8, 3), up(2, 3))
	l := start()
	f, e := nodes.Fail(l, 0)
	r, g := nodes.Rise(l, 1)
	cores := nodes.Cores(l)
	spoil(l)
	if e != api.OK || g != api.OK || !slices.Equal(f, failed) || !slices.Equal(r, risen) || !slices.Equal(cores, []int{4, 8, 2}) {
		t.Errorf("%v, %d, %v, %d, %v", f, e, r, g, cores)
	}
	if nodes.Right(l) || nodes.Up(l) != 2 || nodes.Able(l, 7, 77) != 7 || !slices.Equal(nodes.Cores(l), []int{77, 77, 77}) {
		t.Errorf("it is another now: %v", l)
	}
	f, e = nodes.Fail(start(), 0)
	r, g = nodes.Rise(start(), 1)
	if e != api.OK || g != api.OK || !slices.Equal(f, failed) || !slices.Equal(r, risen) || nodes.Up(start()) != 5 || nodes.Able(start(), 7, 4) != 3 {
		t.Errorf("again: %v, %d, %v, %d", f, e, r, g)
	}
	asked := []int{4, 8}
	made, e := nodes.New(asked)
	spoilCores(asked)
	if e != api.OK || !slices.Equal(made, of(up(4, 1), up(8, 1))) {
		t.Errorf("New: %v, %d", made, e)
	}
}

// R3: what was told is the caller's own: changed, it changes no later answer.
func TestToldIsNotKept(t *testing.T) {
	handed := of(up(4, 1), down(8, 2))
	for range 3 {
		l, e := nodes.New([]int{4, 8})
		failed, f := nodes.Fail(handed, 0)
		risen, g := nodes.Rise(handed, 1)
		cores := nodes.Cores(handed)
		if e != api.OK || f != api.OK || g != api.OK || !slices.Equal(l, of(up(4, 1), up(8, 1))) || !slices.Equal(failed, of(down(4, 1), down(8, 2))) || !slices.Equal(risen, of(up(4, 1), up(8, 3))) || !slices.Equal(cores, []int{4, 8}) {
			t.Fatalf("%v, %d, %v, %d, %v, %d, %v", l, e, failed, f, risen, g, cores)
		}
		spoil(l)
		spoil(failed)
		spoil(risen)
		spoilCores(cores)
		if !slices.Equal(handed, of(up(4, 1), down(8, 2))) {
			t.Fatalf("what was handed in is %v", handed)
		}
	}
}

// reach is where a list's memory begins and ends, its spare room too.
type reach struct{ from, to uintptr }

func reachOf[T any](l []T) reach {
	var one T
	from := uintptr(unsafe.Pointer(unsafe.SliceData(l)))
	return reach{from, from + uintptr(cap(l))*unsafe.Sizeof(one)}
}

// R3: no two lists of answers share memory, nor any with what was handed in; spare room too.
func TestListsAreApart(t *testing.T) {
	var all []reach
	var kept [][]api.Node // so that no memory is let go, and used again
	var keptCores [][]int
	told := func(l []api.Node, e api.Errno) {
		if e != api.OK || len(l) == 0 {
			t.Fatalf("%v, %d", l, e)
		}
		kept = append(kept, l)
		all = append(all, reachOf(l))
	}
	toldCores := func(l []int) {
		keptCores = append(keptCores, l)
		all = append(all, reachOf(l))
	}
	handed := append(make([]api.Node, 0, 64), up(4, 1), down(8, 2), up(2, 3))
	full := times(maxNodes, up(4, 1))
	cores := times(maxNodes, 4)
	told(handed, api.OK)
	told(full, api.OK)
	toldCores(cores)
	for range 3 {
		told(nodes.New(cores))
		told(nodes.New(cores[:1]))
		told(nodes.Fail(handed, 0))
		told(nodes.Fail(handed, 2))
		told(nodes.Rise(handed, 1))
		told(nodes.Fail(full, maxNodes-1))
		toldCores(nodes.Cores(handed))
		toldCores(nodes.Cores(full))
		toldCores(nodes.Cores(handed[:1]))
	}
	slices.SortFunc(all, func(a, b reach) int { return cmp.Compare(a.from, b.from) })
	for i := 1; i < len(all); i++ {
		if all[i].from < all[i-1].to {
			t.Errorf("lists share memory: %v, %v", all[i-1], all[i])
		}
	}
	runtime.KeepAlive(kept)
	runtime.KeepAlive(keptCores)
}

// R4: answers hang on nothing but the arguments: many callers of one list at one time are told the same as one.
func TestManyCallersAtOnce(t *testing.T) {
	d := dice(8)
	shared := d.list(maxNodes)
	for len(shared) < 10 {
		shared = d.list(maxNodes)
	}
	var group sync.WaitGroup
	for k := range 8 {
		group.Add(1)
		go func() {
			defer group.Done()
			d := dice(k)
			for range 2000 {
				i := d.below(len(shared)+2) - 1
				asked, c := d.set(), d.below(maxCores+2)
				failed, e := nodes.Fail(shared, i)
				wantFailed, f := failOf(shared, i)
				risen, g := nodes.Rise(shared, i)
				wantRisen, h := riseOf(shared, i)
				if e != f || g != h || !slices.Equal(failed, wantFailed) || !slices.Equal(risen, wantRisen) || nodes.Able(shared, asked, c) != ableOf(shared, asked, c) || nodes.Up(shared) != upOf(shared) || !slices.Equal(nodes.Cores(shared), coresOf(shared)) || !nodes.Right(shared) {
					t.Errorf("%d, %#x, %d: %v, %d, %v, %d", i, asked, c, failed, e, risen, g)
					return
				}
			}
		}()
	}
	group.Wait()
}
