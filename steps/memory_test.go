package steps_test

import (
	"slices"
	"sync"
	"testing"
	"unsafe"

	"muster/api"
	"muster/steps"
)

// askAll makes all calls upon s, with arguments that are answered and with some that are refused.
func askAll(s []api.Cut) {
	steps.Right(s)
	for _, at := range []int64{-1, 0, 10, last, last + 1} {
		steps.At(s, at)
		for _, to := range []int64{0, 1, 11, 15, 20, last, last + 1} {
			steps.Least(s, at, to)
			for _, n := range []int{0, 1, -1, 3, -3, most, -most, most + 1} {
				steps.Add(s, at, to, n)
			}
		}
		for _, length := range []int64{0, 1, 11, maxTime} {
			steps.Fit(s, at, length, 0)
			steps.Fit(s, at, length, 2)
			steps.Fit(s, at, length, most)
		}
	}
}

// R3: what is handed in is not changed, nor its spare room, nor what stands ahead of it.
func TestHandedInIsLeft(t *testing.T) {
	check := func(name string, s []api.Cut) {
		room := make([]api.Cut, len(s)+8)
		for i := range room {
			room[i] = api.Cut{At: int64(-7 - i), Free: -9 - i}
		}
		copy(room[4:], s)
		before := slices.Clone(room)
		askAll(room[4 : 4+len(s)])
		if !slices.Equal(room, before) {
			t.Errorf("%s: changed", name)
		}
	}
	for name, s := range rightFunctions() {
		check(name, s)
	}
	for name, s := range wrongFunctions() {
		check(name, s)
	}
}

// R3: what was handed in is not kept: whatever becomes of it, earlier answers and later calls tell the same.
func TestHandedInIsNotKept(t *testing.T) {
	for _, n := range []int{0, 3, -1} {
		s := fn(0, 4, 10, 1, 20, 4)
		sum, e := steps.Add(s, 10, 20, n)
		want := slices.Clone(sum)
		for i := range s {
			s[i] = api.Cut{At: -1, Free: -1}
		}
		again, f := steps.Add(fn(0, 4, 10, 1, 20, 4), 10, 20, n)
		if e != api.OK || f != api.OK || !slices.Equal(sum, want) || !slices.Equal(again, want) {
			t.Errorf("%d: %v, %d, then %v, %d, not %v", n, sum, e, again, f, want)
		}
		if steps.Right(s) {
			t.Errorf("is right: %v", s)
		}
		s[0], s[1], s[2] = api.Cut{Free: 9}, api.Cut{At: 1, Free: 8}, api.Cut{At: 2, Free: 7}
		if v, e := steps.At(s, 1); v != 8 || e != api.OK {
			t.Errorf("At(%v, 1) = %d, %d", s, v, e)
		}
	}
}

// R3: what was told is the caller's own: changed, it changes no later answer.
func TestToldIsNotKept(t *testing.T) {
	for range 3 {
		flat, e := steps.Flat(4)
		sum, f := steps.Add(fn(0, 4), 10, 20, -3)
		if e != api.OK || f != api.OK || !slices.Equal(flat, fn(0, 4)) || !slices.Equal(sum, fn(0, 4, 10, 1, 20, 4)) {
			t.Fatalf("%v, %d, %v, %d", flat, e, sum, f)
		}
		for _, l := range [][]api.Cut{flat[:cap(flat)], sum[:cap(sum)]} {
			for i := range l {
				l[i] = api.Cut{At: 77, Free: 77}
			}
		}
	}
}

// spanOf is where a list's memory begins and ends, its spare room too.
func spanOf(l []api.Cut) (from, to uintptr) {
	from = uintptr(unsafe.Pointer(unsafe.SliceData(l)))
	return from, from + uintptr(cap(l))*unsafe.Sizeof(api.Cut{})
}

// R3: no two lists of answers share memory, nor any with what was handed in; spare room too.
func TestListsAreApart(t *testing.T) {
	handed := append(make([]api.Cut, 0, 64), fn(0, 4, 10, 1, 20, 4)...)
	full := zigzag(maxCuts, 1, 2)
	lists := [][]api.Cut{handed, full}
	told := func(l []api.Cut, e api.Errno) {
		if e != api.OK || len(l) == 0 {
			t.Fatalf("%d cuts, %d", len(l), e)
		}
		lists = append(lists, l)
	}
	for range 2 {
		told(steps.Flat(4))
		told(steps.Flat(0))
		told(steps.Add(handed, 10, 20, 0))
		told(steps.Add(handed, 10, 20, 3))
		told(steps.Add(handed, 5, 15, -1))
		told(steps.Add(handed, 30, last, 1))
		told(steps.Add(full, 10, 20, 0))
		told(steps.Add(full, 10, 20, 5))
	}
	for i, a := range lists {
		for j, b := range lists[:i] {
			fromA, toA := spanOf(a)
			fromB, toB := spanOf(b)
			if fromA < toB && fromB < toA {
				t.Errorf("lists %d and %d share memory", i, j)
			}
		}
	}
	for i, a := range lists {
		room := a[:cap(a)]
		for j := range room {
			room[j] = api.Cut{At: int64(i), Free: -1 - i}
		}
	}
	for i, a := range lists {
		for _, c := range a {
			if c.At != int64(i) || c.Free != -1-i {
				t.Errorf("list %d has %v", i, c)
			}
		}
	}
}

// R4: answers hang on nothing but the arguments: many callers of one step function at one time are told the same as one.
func TestManyCallersAtOnce(t *testing.T) {
	shared := fn(0, 9, 10, 1, 20, 7, 1000, 3, maxTime, 9)
	var group sync.WaitGroup
	for k := range 8 {
		group.Add(1)
		go func() {
			defer group.Done()
			d := dice(k)
			for range 2000 {
				from := d.time(shared, maxTime)
				length := 1 + int64(d.below(3000))
				n := d.below(10)
				sum, e := steps.Add(shared, from, from+length, n)
				want, f := sumOf(shared, from, from+length, n)
				at, g := steps.Fit(shared, from, length, n)
				fit, h := fitOf(shared, from, length, n)
				least, i := steps.Least(shared, from, from+length)
				if e != f || !slices.Equal(sum, want) || at != fit || g != h || least != leastOf(shared, from, from+length) || i != api.OK {
					t.Errorf("%d, %d, %d: %v, %d, %d, %d, %d, %d", from, length, n, sum, e, at, g, least, i)
					return
				}
			}
		}()
	}
	group.Wait()
}
