package nodeset_test

import (
	"math"
	"slices"
	"testing"

	"muster/api"
	"muster/nodeset"
)

// The tests' own numbers, so that they don't lean on what they test.
const (
	nodes  = 32
	all    = api.Set(0xffffffff)
	lowest = api.Set(1)
	top    = api.Set(0x80000000)
)

// dice are numbers that look like chance and are the same in each run.
type dice uint64

func (d *dice) next() uint64 {
	*d = *d*6364136223846793005 + 1442695040888963407
	return uint64(*d >> 32)
}

func (d *dice) below(n int) int { return int(d.next() % uint64(n)) }

// set is one with many, few or about half of the nodes.
func (d *dice) set() api.Set {
	s := api.Set(d.next())
	switch d.below(4) {
	case 0:
		s &= api.Set(d.next()) & api.Set(d.next())
	case 1:
		s |= api.Set(d.next()) | api.Set(d.next())
	}
	return s
}

// members is the set as a list of whether each node is there: what tests reckon with.
func members(s api.Set) [nodes]bool {
	var m [nodes]bool
	for i := range m {
		m[i] = s%2 == 1
		s /= 2
	}
	return m
}

// setOf is the set with these members.
func setOf(m [nodes]bool) api.Set {
	s, worth := api.Set(0), api.Set(1)
	for _, is := range m {
		if is {
			s += worth
		}
		worth *= 2
	}
	return s
}

// listOf is the nodes that are members.
func listOf(m [nodes]bool) []int {
	var l []int
	for i, is := range m {
		if is {
			l = append(l, i)
		}
	}
	return l
}

// manySets are all sets of the lowest ten nodes, of the ten highest and of ten in the middle, all with one node, with all but one, with two, all single runs, and some that look like chance.
func manySets() []api.Set {
	out := []api.Set{0, all, 0x55555555, 0xaaaaaaaa, 0x33333333, 0xcccccccc, 0x6db6db6d}
	for s := range api.Set(1 << 10) {
		out = append(out, s, s<<22, s<<11)
	}
	for i := range nodes {
		for j := range i + 1 {
			two := api.Set(1)<<i | api.Set(1)<<j
			run := (api.Set(1)<<(i-j+1) - 1) << j
			out = append(out, two, ^two, run, ^run)
		}
	}
	d := dice(10)
	for range 5000 {
		out = append(out, d.set())
	}
	return out
}

// ofCases are lists, and the set that they are, or none.
func ofCases() map[string]struct {
	l    []int
	want api.Set
	err  api.Errno
} {
	type one = struct {
		l    []int
		want api.Set
		err  api.Errno
	}
	var rising, falling, thrice []int
	for i := range nodes {
		rising = append(rising, i)
		falling = append(falling, nodes-1-i)
		thrice = append(thrice, i, nodes-1-i, i)
	}
	return map[string]one{
		"no list":                      {nil, 0, api.OK},
		"the empty list":               {[]int{}, 0, api.OK},
		"the chapter's one":            {[]int{0, 1, 2, 5}, 0x27, api.OK},
		"out of its order":             {[]int{5, 0, 2, 1}, 0x27, api.OK},
		"twice":                        {[]int{3, 3}, 8, api.OK},
		"twice, not side by side":      {[]int{7, 3, 7}, 0x88, api.OK},
		"many times":                   {slices.Repeat([]int{9}, 1000), 0x200, api.OK},
		"the node 0":                   {[]int{0}, lowest, api.OK},
		"the node 30":                  {[]int{30}, 0x40000000, api.OK},
		"the node 31":                  {[]int{31}, top, api.OK},
		"both ends":                    {[]int{31, 0}, top | lowest, api.OK},
		"all":                          {rising, all, api.OK},
		"all, falling":                 {falling, all, api.OK},
		"all, three times":             {thrice, all, api.OK},
		"-1":                           {[]int{-1}, 0, api.ErrArg},
		"32":                           {[]int{32}, 0, api.ErrArg},
		"33":                           {[]int{33}, 0, api.ErrArg},
		"63":                           {[]int{63}, 0, api.ErrArg},
		"64":                           {[]int{64}, 0, api.ErrArg},
		"-31":                          {[]int{-31}, 0, api.ErrArg},
		"-32":                          {[]int{-32}, 0, api.ErrArg},
		"-64":                          {[]int{-64}, 0, api.ErrArg},
		"256":                          {[]int{256}, 0, api.ErrArg},
		"2^32":                         {[]int{1 << 32}, 0, api.ErrArg},
		"2^32 and 5":                   {[]int{1<<32 + 5}, 0, api.ErrArg},
		"the least number":             {[]int{math.MinInt}, 0, api.ErrArg},
		"the least number and 3":       {[]int{math.MinInt + 3}, 0, api.ErrArg},
		"the greatest number":          {[]int{math.MaxInt}, 0, api.ErrArg},
		"no node ahead of nodes":       {[]int{32, 1, 2}, 0, api.ErrArg},
		"no node behind nodes":         {[]int{1, 2, -1}, 0, api.ErrArg},
		"no node between nodes":        {[]int{1, 32, 2}, 0, api.ErrArg},
		"no node behind all":           {append(slices.Clone(rising), 32), 0, api.ErrArg},
		"no node ahead of all":         {append([]int{-1}, rising...), 0, api.ErrArg},
		"two that would meet as nodes": {[]int{-1, 1}, 0, api.ErrArg},
	}
}

// P10.1: Of, with each edge that the document names.
func TestOf(t *testing.T) {
	for name, c := range ofCases() {
		for range 2 {
			if s, e := nodeset.Of(c.l); s != c.want || e != c.err {
				t.Errorf("%s: Of(%v) = %#x, %d", name, c.l, s, e)
			}
		}
	}
}

// P10.1: each number around the nodes, for itself and beside a node.
func TestOfEachNumber(t *testing.T) {
	for n := -300; n <= 300; n++ {
		want, err := api.Set(0), api.ErrArg
		if n >= 0 && n < nodes {
			var m [nodes]bool
			m[n] = true
			want, err = setOf(m), api.OK
		}
		if s, e := nodeset.Of([]int{n}); s != want || e != err {
			t.Errorf("Of(%d) = %#x, %d", n, s, e)
		}
		if err == api.OK {
			want |= 1 << 4
		}
		for _, l := range [][]int{{4, n}, {n, 4}, {n, 4, n}} {
			if s, e := nodeset.Of(l); s != want || e != err {
				t.Errorf("Of(%v) = %#x, %d", l, s, e)
			}
		}
	}
}

// P10.1: Of, of lists in any order, with nodes that stand there several times, and sometimes with one that is none.
func TestOfAnyOrder(t *testing.T) {
	d := dice(1)
	wrong := []int{-1, 32, math.MinInt, math.MaxInt, 33, -32, 1 << 32}
	for range 5000 {
		var m [nodes]bool
		var l []int
		for range d.below(50) {
			n := d.below(nodes)
			m[n] = true
			l = append(l, n)
		}
		want, err := setOf(m), api.OK
		if d.below(3) == 0 {
			l = slices.Insert(l, d.below(len(l)+1), wrong[d.below(len(wrong))])
			want, err = 0, api.ErrArg
		}
		if s, e := nodeset.Of(l); s != want || e != err {
			t.Fatalf("Of(%v) = %#x, %d, not %#x, %d", l, s, e, want, err)
		}
	}
}

// P10.1: List and Count, of none, of all, and of many sets between.
func TestListAndCount(t *testing.T) {
	for _, s := range manySets() {
		want := listOf(members(s))
		if l := nodeset.List(s); !slices.Equal(l, want) {
			t.Errorf("List(%#x) = %v", s, l)
		}
		if n := nodeset.Count(s); n != len(want) {
			t.Errorf("Count(%#x) = %d", s, n)
		}
	}
	if l := nodeset.List(0); len(l) != 0 {
		t.Errorf("List(none) = %v", l)
	}
	if n := nodeset.Count(all); n != nodes {
		t.Errorf("Count(all) = %d", n)
	}
	if l := nodeset.List(top | lowest); !slices.Equal(l, []int{0, 31}) {
		t.Errorf("List of both ends = %v", l)
	}
}

// P10.1: Within, of sets in themselves, of none, of all, and of sets that lack one node.
func TestWithin(t *testing.T) {
	is := func(a, b api.Set, want bool) {
		t.Helper()
		if nodeset.Within(a, b) != want {
			t.Errorf("Within(%#x, %#x) = %v", a, b, !want)
		}
	}
	is(0, 0, true)
	is(all, all, true)
	is(0, all, true)
	is(all, 0, false)
	is(3, 7, true)
	is(7, 3, false)
	is(8, 7, false)
	is(top, all^top, false)
	is(lowest, all^lowest, false)
	for _, s := range manySets() {
		is(s, s, true)
		is(0, s, true)
		is(s, all, true)
		is(s, 0, s == 0)
		is(all, s, s == all)
		is(s, ^s, s == 0)
		for i, has := range members(s) {
			one := api.Set(1) << i
			is(one, s, has)
			is(s, s&^one, !has)
			is(s, s|one, true)
		}
	}
}

// P10.1: Within, of any two sets of five nodes, and of any two that look like chance.
func TestWithinAnyTwo(t *testing.T) {
	check := func(a, b api.Set) {
		want := true
		inB := members(b)
		for i, has := range members(a) {
			want = want && (!has || inB[i])
		}
		if nodeset.Within(a, b) != want {
			t.Fatalf("Within(%#x, %#x) = %v", a, b, !want)
		}
	}
	for a := range api.Set(1 << 5) {
		for b := range api.Set(1 << 5) {
			check(a, b)
			check(a<<27, b<<27)
			check(a<<14, b<<13)
		}
	}
	d := dice(2)
	for range 20000 {
		a, b := d.set(), d.set()
		check(a, b)
		check(a&b, b)
		check(a, a|b)
	}
}

// firstOf is First in plain words: the list's beginning.
func firstOf(s api.Set, n int) (api.Set, bool) {
	l := listOf(members(s))
	if n < 0 || n > len(l) {
		return 0, false
	}
	var m [nodes]bool
	for _, i := range l[:n] {
		m[i] = true
	}
	return setOf(m), true
}

// P10.2: First, of as many as there are, of one more, of none, of numbers below 0, and of all between.
func TestFirst(t *testing.T) {
	far := []int{math.MinInt, math.MinInt + 1, -1 << 32, -64, -33, -32, -2, 40, 63, 64, 65, 1 << 31, 1 << 32, 1<<32 + 1, math.MaxInt}
	for _, s := range manySets() {
		for n := -1; n <= nodes+1; n++ {
			checkFirst(t, s, n)
		}
		for _, n := range far {
			checkFirst(t, s, n)
		}
	}
}

func checkFirst(t *testing.T, s api.Set, n int) {
	want, is := firstOf(s, n)
	if got, ok := nodeset.First(s, n); got != want || ok != is {
		t.Fatalf("First(%#x, %d) = %#x, %v, not %#x, %v", s, n, got, ok, want, is)
	}
}

// P10.2: First at the edges that the document names, each told.
func TestFirstEdges(t *testing.T) {
	for name, c := range map[string]struct {
		s    api.Set
		n    int
		want api.Set
		is   bool
	}{
		"two of the chapter's":      {0x27, 2, 3, true},
		"three of the chapter's":    {0x27, 3, 7, true},
		"all of the chapter's":      {0x27, 4, 0x27, true},
		"one more":                  {0x27, 5, 0, false},
		"0 of some":                 {0x27, 0, 0, true},
		"0 of none":                 {0, 0, 0, true},
		"1 of none":                 {0, 1, 0, false},
		"-1 of none":                {0, -1, 0, false},
		"-1 of some":                {0x27, -1, 0, false},
		"-1 of all":                 {all, -1, 0, false},
		"the least number":          {all, math.MinInt, 0, false},
		"the greatest number":       {all, math.MaxInt, 0, false},
		"0 of all":                  {all, 0, 0, true},
		"1 of all":                  {all, 1, lowest, true},
		"31 of all":                 {all, 31, all ^ top, true},
		"32 of all":                 {all, 32, all, true},
		"33 of all":                 {all, 33, 0, false},
		"1 of the last":             {top, 1, top, true},
		"2 of the last":             {top, 2, 0, false},
		"1 of both ends":            {top | lowest, 1, lowest, true},
		"2 of both ends":            {top | lowest, 2, top | lowest, true},
		"as many as bits of a word": {all, 64, 0, false},
	} {
		if got, ok := nodeset.First(c.s, c.n); got != c.want || ok != c.is {
			t.Errorf("%s: First(%#x, %d) = %#x, %v", name, c.s, c.n, got, ok)
		}
	}
}
