package nodeset_test

import (
	"slices"
	"sync"
	"testing"
	"unsafe"

	"muster/api"
	"muster/nodeset"
)

// R3: Of changes neither its list nor the list's spare room, whether it answers a set or an error.
func TestOfLeavesItsList(t *testing.T) {
	for name, c := range ofCases() {
		room := make([]int, len(c.l)+8)
		for i := range room {
			room[i] = -7 - i
		}
		copy(room[4:], c.l)
		before := slices.Clone(room)
		nodeset.Of(room[4 : 4+len(c.l)])
		if !slices.Equal(room, before) {
			t.Errorf("%s: changed: %v", name, room)
		}
	}
}

// R3: what Of was handed is not kept: whatever becomes of the list, earlier answers and later calls tell the same.
func TestOfKeepsNothing(t *testing.T) {
	l := []int{0, 1, 2, 5}
	s, _ := nodeset.Of(l)
	clear(l)
	if again, e := nodeset.Of([]int{0, 1, 2, 5}); s != 0x27 || again != s || e != api.OK {
		t.Errorf("%#x, then %#x, %d", s, again, e)
	}
	if one, e := nodeset.Of(l); one != lowest || e != api.OK {
		t.Errorf("Of(%v) = %#x, %d", l, one, e)
	}
}

// spanOf is where a list's memory begins and ends, its spare room too.
func spanOf(l []int) (from, to uintptr) {
	from = uintptr(unsafe.Pointer(unsafe.SliceData(l)))
	return from, from + uintptr(cap(l))*unsafe.Sizeof(0)
}

// R3: no two lists of answers share memory, nor any with what was handed in; spare room too.
func TestListsAreApart(t *testing.T) {
	handed := make([]int, 0, 64)
	for i := range nodes {
		handed = append(handed, i)
	}
	s, _ := nodeset.Of(handed)
	lists := [][]int{handed, nodeset.List(s), nodeset.List(s), nodeset.List(0x27), nodeset.List(0x27), nodeset.List(top), nodeset.List(top)}
	for i, a := range lists {
		for _, b := range lists[:i] {
			fromA, toA := spanOf(a)
			fromB, toB := spanOf(b)
			if fromA < toB && fromB < toA {
				t.Errorf("lists share memory: %v and %v", a, b)
			}
		}
	}
	for i, a := range lists {
		full := a[:cap(a)]
		for j := range full {
			full[j] = -1 - i
		}
	}
	for i, a := range lists {
		for _, n := range a {
			if n != -1-i {
				t.Errorf("list %d has %d", i, n)
			}
		}
	}
	if l := nodeset.List(0x27); !slices.Equal(l, []int{0, 1, 2, 5}) {
		t.Errorf("behind that: %v", l)
	}
}

// R3: a text that is read out of memory which changes behind the call is neither changed nor kept.
func TestParseKeepsNothing(t *testing.T) {
	room := []byte("0-2,5|0-31|0,1|")
	before := slices.Clone(room)
	at := func(from, to int) string { return unsafe.String(&room[from], to-from) }
	a, e := nodeset.Parse(at(0, 5))
	b, f := nodeset.Parse(at(6, 10))
	c, g := nodeset.Parse(at(11, 14))
	if !slices.Equal(room, before) {
		t.Errorf("changed: %q", room)
	}
	for i := range room {
		room[i] = '9'
	}
	if a != 0x27 || e != api.OK || b != all || f != api.OK || c != 0 || g != api.ErrSyntax {
		t.Errorf("%#x, %d, %#x, %d, %#x, %d", a, e, b, f, c, g)
	}
	if s, e := nodeset.Parse("0-2,5"); s != 0x27 || e != api.OK {
		t.Errorf("behind that: %#x, %d", s, e)
	}
}

// R4: answers hang on nothing but the arguments: many callers at one time are told the same as one.
func TestManyCallersAtOnce(t *testing.T) {
	var group sync.WaitGroup
	for k := range 8 {
		group.Add(1)
		go func() {
			defer group.Done()
			d := dice(k)
			for range 2000 {
				s := d.set()
				text := nodeset.Print(s)
				back, e := nodeset.Parse(text)
				of, f := nodeset.Of(nodeset.List(s))
				if text != textOf(s) || back != s || e != api.OK || of != s || f != api.OK {
					t.Errorf("%#x: %q, %#x, %d, %#x, %d", s, text, back, e, of, f)
					return
				}
			}
		}()
	}
	group.Wait()
}
