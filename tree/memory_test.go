package tree_test

import (
	"cmp"
	"runtime"
	"slices"
	"sync"
	"testing"
	"unsafe"

	"muster/api"
	"muster/tree"
)

// askAll makes all calls upon l, with arguments that are answered and with some that are refused.
func askAll(l []api.Account) {
	tree.Right(l)
	names := []string{"", "x", "a", "A", "zz"}
	for _, a := range l[:min(len(l), maxAccounts+1)] {
		names = append(names, a.Name, a.Parent)
	}
	for _, s := range names {
		tree.Name(s)
		tree.Find(l, s)
		tree.Path(l, s)
		tree.Below(l, s)
		for _, n := range []int{-2, -1, 0, 8, mostLimit, mostLimit + 1} {
			tree.Limit(l, s, n)
		}
	}
}

// roomy is l with other elements ahead of it and behind it, in its spare room.
func roomy[T any](l []T, other T) (whole, part []T) {
	whole = append(whole, other, other, other)
	whole = append(whole, l...)
	whole = append(whole, other, other, other)
	return whole, whole[3 : 3+len(l)]
}

// R3: what is handed in is not changed, nor its spare room, nor what stands ahead of it.
func TestHandedInIsLeft(t *testing.T) {
	for name, l := range allTrees() {
		for _, other := range of(child("?", "!", -77), root("a", 0), child("b", "a", 0)) {
			whole, part := roomy(l, other)
			before := slices.Clone(whole)
			askAll(part)
			if !slices.Equal(whole, before) {
				t.Errorf("%s: changed", name)
			}
		}
	}
}

// spoil puts another account into each place of l, and into its spare room.
func spoil(l []api.Account) {
	l = l[:cap(l)]
	for i := range l {
		l[i] = child("spoilt", "?", -77)
	}
}

// spoilNames puts another name into each place of l, and into its spare room.
func spoilNames(l []string) {
	l = l[:cap(l)]
	for i := range l {
		l[i] = "spoilt"
	}
}

// R3: what was handed in is not kept: whatever becomes of it, earlier answers and later calls tell the same.
func TestHandedInIsNotKept(t *testing.T) {
	limited := put(chapters(), 2, child("bio", "all", 8))
	l := chapters()
	path, e := tree.Path(l, "lab")
	below, f := tree.Below(l, "all")
	m, g := tree.Limit(l, "bio", 8)
	spoil(l)
	if e != api.OK || f != api.OK || g != api.OK || !slices.Equal(path, []string{"lab", "phys", "all"}) || !slices.Equal(below, []string{"all", "phys", "bio", "lab"}) || !slices.Equal(m, limited) {
		t.Errorf("%v, %d, %v, %d, %v, %d", path, e, below, f, m, g)
	}
	if _, has := tree.Find(l, "lab"); has || tree.Right(l) {
		t.Errorf("it is another now: %v", l)
	}
	if _, e := tree.Path(l, "lab"); e != api.ErrArg {
		t.Errorf("it is another now: %v, %d", l, e)
	}
	path, e = tree.Path(chapters(), "lab")
	below, f = tree.Below(chapters(), "all")
	m, g = tree.Limit(chapters(), "bio", 8)
	if e != api.OK || f != api.OK || g != api.OK || !slices.Equal(path, []string{"lab", "phys", "all"}) || !slices.Equal(below, []string{"all", "phys", "bio", "lab"}) || !slices.Equal(m, limited) {
		t.Errorf("again: %v, %d, %v, %d, %v, %d", path, e, below, f, m, g)
	}
}

// R3: what was told is the caller's own: changed, it changes no later answer.
func TestToldIsNotKept(t *testing.T) {
	handed := chapters()
	for range 3 {
		path, e := tree.Path(handed, "lab")
		below, f := tree.Below(handed, "phys")
		m, g := tree.Limit(handed, "bio", 8)
		same, h := tree.Limit(handed, "phys", 8)
		if e != api.OK || f != api.OK || g != api.OK || h != api.OK || !slices.Equal(path, []string{"lab", "phys", "all"}) || !slices.Equal(below, []string{"phys", "lab"}) || !slices.Equal(m, put(chapters(), 2, child("bio", "all", 8))) || !slices.Equal(same, chapters()) {
			t.Fatalf("%v, %d, %v, %d, %v, %d, %v, %d", path, e, below, f, m, g, same, h)
		}
		spoilNames(path)
		spoilNames(below)
		spoil(m)
		spoil(same)
		if !slices.Equal(handed, chapters()) {
			t.Fatalf("what was handed in is %v", handed)
		}
	}
}

// reach is where a list's memory begins and ends, its spare room too.
type reach struct{ from, to uintptr }

func reachOf[T any](l []T) reach {
	var one T
	from := uintptr(unsafe.Pointer(unsafe.SliceData(l)))
	return reach{from, from + uintptr(cap(l))*unsafe.Sizeof(one)}
}

// R3: no two lists of answers share memory, nor any with what was handed in; spare room too.
func TestListsAreApart(t *testing.T) {
	var all []reach
	var kept [][]api.Account // so that no memory is let go, and used again
	var keptNames [][]string
	tell := func(l []api.Account, e api.Errno) {
		if e != api.OK || len(l) == 0 {
			t.Fatalf("%v, %d", l, e)
		}
		kept = append(kept, l)
		all = append(all, reachOf(l))
	}
	tellNames := func(l []string, e api.Errno) {
		if e != api.OK || len(l) == 0 {
			t.Fatalf("%v, %d", l, e)
		}
		keptNames = append(keptNames, l)
		all = append(all, reachOf(l))
	}
	handed := append(make([]api.Account, 0, 64), chapters()...)
	full := line(maxAccounts)
	tell(handed, api.OK)
	tell(full, api.OK)
	for range 3 {
		for _, n := range []int{-1, 3, 8} {
			tell(tree.Limit(handed, "lab", n))
			tell(tree.Limit(handed, "all", n))
			tell(tree.Limit(full, numbered(maxAccounts-1), n))
		}
		tellNames(tree.Path(handed, "lab"))
		tellNames(tree.Path(handed, "all"))
		tellNames(tree.Path(full, numbered(maxAccounts-1)))
		tellNames(tree.Below(handed, "lab"))
		tellNames(tree.Below(handed, "all"))
		tellNames(tree.Below(full, numbered(0)))
	}
	slices.SortFunc(all, func(a, b reach) int { return cmp.Compare(a.from, b.from) })
	for i := 1; i < len(all); i++ {
		if all[i].from < all[i-1].to {
			t.Errorf("lists share memory: %v, %v", all[i-1], all[i])
		}
	}
	runtime.KeepAlive(kept)
	runtime.KeepAlive(keptNames)
}

// R4: answers hang on nothing but the arguments: many callers of one tree at one time are told the same as one.
func TestManyCallersAtOnce(t *testing.T) {
	d := dice(9)
	shared := d.tree(maxAccounts)
	for len(shared) < 10 {
		shared = d.tree(maxAccounts)
	}
	var group sync.WaitGroup
	for k := range 8 {
		group.Add(1)
		go func() {
			defer group.Done()
			d := dice(k)
			for range 2000 {
				name, n := shared[d.below(len(shared))].Name, d.limit()
				if d.below(4) == 0 {
					name = d.name()
				}
				path, e := tree.Path(shared, name)
				wantPath, f := pathOf(shared, name)
				below, g := tree.Below(shared, name)
				wantBelow, h := belowOf(shared, name)
				limited, i := tree.Limit(shared, name, n)
				wantLimited, j := limitOf(shared, name, n)
				if e != f || g != h || i != j || !slices.Equal(path, wantPath) || !slices.Equal(below, wantBelow) || !slices.Equal(limited, wantLimited) || !tree.Right(shared) || !tree.Name(name) {
					t.Errorf("%s, %d: %v, %d, %v, %d, %v, %d", name, n, path, e, below, g, limited, i)
					return
				}
			}
		}()
	}
	group.Wait()
}
