package profile_test

import (
	"math"
	"slices"
	"testing"

	"muster/api"
	"muster/profile"
)

// The tests' own numbers, so that they don't lean on what they test.
const (
	most     = 1073741824 // 2^30: cores that are taken or given
	maxTime  = int64(1099511627776)
	last     = int64(2199023255552) // 2^41: the last end of a window
	maxLimit = int64(1048576)
	maxCuts  = 4096
	maxCores = 64
	maxNodes = 32
	every    = api.Set(0xFFFFFFFF)
	node31   = api.Set(0x80000000)
	least64  = int64(math.MinInt64)
	great64  = int64(math.MaxInt64)
)

// dice are numbers that look like chance and are the same in each run.
type dice uint64

func (d *dice) next() uint64 {
	*d = *d*6364136223846793005 + 1442695040888963407
	return uint64(*d >> 32)
}

func (d *dice) below(n int) int { return int(d.next() % uint64(n)) }

// set is any set, with few nodes or with many.
func (d *dice) set() api.Set {
	s := api.Set(d.next())
	switch d.below(4) {
	case 0:
		s &= api.Set(d.next())
	case 1:
		s |= api.Set(d.next())
	}
	return s
}

// function is a right step function of at most that many cuts, with times close together or far apart, and values as cores are.
func (d *dice) function(cuts int) []api.Cut {
	s := []api.Cut{{At: 0, Free: d.below(9)}}
	wide := int64(1) << d.below(38)
	for range d.below(cuts) {
		before := s[len(s)-1]
		c := api.Cut{At: before.At + 1 + int64(d.next())%wide, Free: d.below(9)}
		if c.At > last || c.Free == before.Free {
			break
		}
		s = append(s, c)
	}
	return s
}

// profile is a right one of at most that many nodes.
func (d *dice) profile(nodes, cuts int) [][]api.Cut {
	var p [][]api.Cut
	for range 1 + d.below(nodes) {
		p = append(p, d.function(cuts))
	}
	return p
}

// time is one close to a cut, or anywhere, from 0 to at most.
func (d *dice) time(p [][]api.Cut, most int64) int64 {
	s := p[d.below(len(p))]
	t := s[d.below(len(s))].At + int64(d.below(5)) - 2
	if d.below(4) == 0 {
		t = int64(d.next()<<20^d.next()) % (most + 1)
	}
	return min(max(t, 0), most)
}

// fn is a list of cuts, each told by its time and its value.
func fn(pairs ...int64) []api.Cut {
	var s []api.Cut
	for i := 0; i < len(pairs); i += 2 {
		s = append(s, api.Cut{At: pairs[i], Free: int(pairs[i+1])})
	}
	return s
}

// flats is the profile whose nodes have these values always.
func flats(values ...int) [][]api.Cut {
	var p [][]api.Cut
	for _, v := range values {
		p = append(p, fn(0, int64(v)))
	}
	return p
}

// of is the profile of these step functions.
func of(p ...[]api.Cut) [][]api.Cut { return p }

// times is a list of n times v.
func times(n, v int) []int { return slices.Repeat([]int{v}, n) }

// zigzag is n cuts, at 0, 10, 20 and so on, whose values are low and high in turn.
func zigzag(n, low, high int) []api.Cut {
	var s []api.Cut
	for i := range n {
		s = append(s, api.Cut{At: int64(i) * 10, Free: low + i%2*(high-low)})
	}
	return s
}

// copyOf is p in memory of its own.
func copyOf(p [][]api.Cut) [][]api.Cut {
	var q [][]api.Cut
	for _, s := range p {
		q = append(q, slices.Clone(s))
	}
	return q
}

// same tells whether two profiles are, element by element.
func same(p, q [][]api.Cut) bool {
	return slices.EqualFunc(p, q, func(a, b []api.Cut) bool { return slices.Equal(a, b) })
}

// has tells whether s has that node.
func has(s api.Set, node int) bool { return s>>node&1 == 1 }

// first is the set of the n lowest nodes.
func first(n int) api.Set { return api.Set(uint64(1)<<n - 1) }

// valueAt is the value at t, looked for from the end on: what tests reckon with.
func valueAt(s []api.Cut, t int64) int {
	for _, c := range slices.Backward(s) {
		if c.At <= t {
			return c.Free
		}
	}
	return -1
}

// leastOf is the least of the values where the window begins and at each cut within it.
func leastOf(s []api.Cut, from, to int64) int {
	least := valueAt(s, from)
	for _, c := range s {
		if from < c.At && c.At < to && c.Free < least {
			least = c.Free
		}
	}
	return least
}

// wrongFunctions are lists of cuts that are no right step functions, by what is wrong with them.
func wrongFunctions() map[string][]api.Cut {
	return map[string][]api.Cut{
		"no cuts":                 nil,
		"one cut above MaxCuts":   zigzag(maxCuts+1, 1, 2),
		"a first At of 1":         fn(1, 4),
		"a first At of -1":        fn(-1, 4, 0, 5),
		"Ats that fall":           fn(0, 4, 10, 5, 9, 4),
		"an At twice":             fn(0, 4, 10, 5, 10, 6),
		"an At one above 2^41":    fn(0, 4, last+1, 5),
		"a Free of -1":            fn(0, -1),
		"a Free of -1, behind":    fn(0, 4, 10, -1),
		"a Free one above 2^30":   fn(0, most+1),
		"the same Free twice":     fn(0, 4, 10, 4),
		"the least Free, behind":  fn(0, 4, 10, int64(math.MinInt)),
		"the greatest At, behind": fn(0, 4, great64, 5),
	}
}

// wrongProfiles are those that are not right, by what is wrong with them.
func wrongProfiles() map[string][][]api.Cut {
	wrong := map[string][][]api.Cut{
		"none":                   nil,
		"no nodes":               {},
		"no nodes, but room":     flats(4, 4)[:0],
		"one above MaxNodes":     flats(times(maxNodes+1, 4)...),
		"twice MaxNodes":         flats(times(2*maxNodes, 4)...),
		"very many nodes":        flats(times(10000, 4)...),
		"two that are not right": {nil, nil},
		"none that is right":     make([][]api.Cut, maxNodes),
	}
	for name, s := range wrongFunctions() {
		wrong["alone: "+name] = of(s)
		wrong["first of two: "+name] = of(s, fn(0, 4))
		wrong["last of two: "+name] = of(fn(0, 4), s)
		wrong["in the middle: "+name] = of(fn(0, 4), s, fn(0, 4))
		full := flats(times(maxNodes, 4)...)
		full[maxNodes-1] = s
		wrong["node 31: "+name] = full
	}
	return wrong
}

// rightProfiles are right ones, by what is at their edge.
func rightProfiles() map[string][][]api.Cut {
	full := flats(times(maxNodes, maxCores)...)
	for i := range full {
		full[i] = zigzag(maxCuts, i, i+1)
	}
	return map[string][][]api.Cut{
		"one node":                  flats(4),
		"one node with no cores":    flats(0),
		"one node with 2^30":        flats(most),
		"two nodes":                 flats(4, 8),
		"the chapter's one":         of(fn(0, 1, 10, 4), fn(0, 4)),
		"one below MaxNodes":        flats(times(maxNodes-1, 1)...),
		"MaxNodes":                  flats(times(maxNodes, maxCores)...),
		"MaxNodes, each of MaxCuts": full,
		"cuts at MaxTime and 2^41":  of(fn(0, 4, maxTime, 5), fn(0, 4, last, 5), fn(0, 4, last-1, 5, last, 4)),
		"MaxCuts, and one":          of(zigzag(maxCuts, 1, 2), fn(0, 3)),
		"from 0 to 2^30 and back":   of(fn(0, 0, 5, most, 6, 0), fn(0, most, 5, 0, 6, most)),
		"room behind":               append(make([][]api.Cut, 0, 9), fn(0, 4), append(make([]api.Cut, 0, 9), fn(0, 4, 10, 1)...)),
	}
}

// P12.1: New, with each edge that the document names.
func TestNew(t *testing.T) {
	for name, cores := range map[string][]int{
		"one node, 1 core":           {1},
		"one node, MaxCores":         {maxCores},
		"one node, one below":        {maxCores - 1},
		"the chapter's":              {4, 4},
		"unlike ones":                {1, maxCores, 2, 8},
		"one below MaxNodes":         times(maxNodes-1, 3),
		"MaxNodes":                   times(maxNodes, 3),
		"MaxNodes, MaxCores of each": times(maxNodes, maxCores),
		"MaxNodes, 1 core of each":   times(maxNodes, 1),
		"room behind":                append(make([]int, 0, 50), 5, 6),
	} {
		p, e := profile.New(cores)
		if e != api.OK || !same(p, flats(cores...)) || !profile.Right(p) {
			t.Errorf("%s: %v, %d", name, p, e)
		}
		for node, s := range p {
			for _, at := range []int64{0, 1, maxTime, last} {
				if valueAt(s, at) != cores[node] {
					t.Errorf("%s: node %d has %v", name, node, s)
				}
			}
		}
	}
}

// P12.1: New, of each number of nodes and of cores.
func TestNewOfEach(t *testing.T) {
	for n := range 3 * maxNodes {
		for c := -3; c < 2*maxCores; c++ {
			p, e := profile.New(times(n, c))
			if n >= 1 && n <= maxNodes && c >= 1 && c <= maxCores {
				if e != api.OK || !same(p, flats(times(n, c)...)) {
					t.Fatalf("New of %d times %d: %v, %d", n, c, p, e)
				}
			} else if e != api.ErrArg || len(p) != 0 {
				t.Fatalf("New of %d times %d: %v, %d", n, c, p, e)
			}
		}
	}
}

// P12.1: New, of cores that may not be.
func TestNewWrong(t *testing.T) {
	wrong := map[string][]int{
		"none":                       nil,
		"no cores":                   {},
		"one above MaxNodes":         times(maxNodes+1, 4),
		"one above MaxNodes, wrong":  times(maxNodes+1, 0),
		"twice MaxNodes":             times(2*maxNodes, 4),
		"very many":                  times(100000, 4),
		"one above MaxNodes, last 0": append(times(maxNodes, 4), 0),
	}
	for _, c := range []int{0, -1, -4, maxCores + 1, maxCores + 2, 2 * maxCores, 256 + 4, most, most + 1, math.MinInt, math.MinInt32, math.MaxInt32, math.MaxInt, 1<<32 + 4} {
		name := text(int64(c))
		wrong["alone "+name] = []int{c}
		wrong["first "+name] = []int{c, 4}
		wrong["last "+name] = []int{4, c}
		wrong["in the middle "+name] = []int{4, c, 4}
		wrong["node 31 "+name] = append(times(maxNodes-1, 4), c)
		wrong["all "+name] = times(maxNodes, c)
	}
	for name, cores := range wrong {
		if p, e := profile.New(cores); e != api.ErrArg || len(p) != 0 {
			t.Errorf("%s: %v, %d", name, p, e)
		}
	}
}

// P12.1: Right, with each edge that the document names.
func TestRight(t *testing.T) {
	for name, p := range rightProfiles() {
		if !profile.Right(p) {
			t.Errorf("%s: is right", name)
		}
	}
	for name, p := range wrongProfiles() {
		if profile.Right(p) {
			t.Errorf("%s: is not right", name)
		}
	}
}

// P12.1: Right, with one wrong step function at each place of profiles of each size.
func TestRightOneOff(t *testing.T) {
	for n := 1; n <= maxNodes; n++ {
		for i := range n {
			p := flats(times(n, 4)...)
			p[i] = fn(0, 4, 10, 4)
			if profile.Right(p) {
				t.Fatalf("of %d nodes, node %d is not right", n, i)
			}
			p[i] = fn(0, 4, 10, 5)
			if !profile.Right(p) {
				t.Fatalf("of %d nodes, all are right", n)
			}
		}
	}
}

// P12.2 to P12.4: what is not right is refused in all calls, whatever else is asked.
func TestWrongProfilesAreRefused(t *testing.T) {
	for name, p := range wrongProfiles() {
		for _, on := range []api.Set{0, 1, 2, node31, every} {
			if s, e := profile.Free(p, on, 0, 1, 0); s != 0 || e != api.ErrArg {
				t.Errorf("%s: Free: %d, %d", name, s, e)
			}
			for _, c := range []int{0, 1, most} {
				if q, e := profile.Take(p, on, c, 0, 1); len(q) != 0 || e != api.ErrArg {
					t.Errorf("%s: Take: %d nodes, %d", name, len(q), e)
				}
				if q, e := profile.Give(p, on, c, 0, 1); len(q) != 0 || e != api.ErrArg {
					t.Errorf("%s: Give: %d nodes, %d", name, len(q), e)
				}
			}
			for _, count := range []int{1, maxNodes} {
				if at, s, e := profile.Fit(p, api.Ask{Count: count, Cores: 1, Limit: 1, Nodes: on}); at != 0 || s != 0 || e != api.ErrArg {
					t.Errorf("%s: Fit: %d, %d, %d", name, at, s, e)
				}
			}
		}
	}
}

// freeCase is a Free, and what it is to answer.
type freeCase struct {
	p        [][]api.Cut
	nodes    api.Set
	from, to int64
	c        int
	want     api.Set
}

// P12.2: Free, with each edge that the document names.
func TestFree(t *testing.T) {
	p := of(fn(0, 1, 10, 4), fn(0, 4), fn(0, 4, 10, 2, 20, 8))
	full := flats(times(maxNodes, 4)...)
	far := of(fn(0, 4, maxTime, 1), fn(0, 4, last-1, 1), fn(0, 4, last, 1))
	many := of(zigzag(maxCuts, 3, 9), fn(0, 5))
	for name, c := range map[string]freeCase{
		"what all have":                  {p, 7, 0, 10, 1, 7},
		"what two have":                  {p, 7, 0, 10, 2, 6},
		"just what they have":            {p, 7, 0, 10, 4, 6},
		"one more":                       {p, 7, 0, 10, 5, 0},
		"one tick beyond a cut":          {p, 7, 0, 11, 4, 2},
		"one tick beyond, 2":             {p, 7, 0, 11, 2, 6},
		"from a cut on":                  {p, 7, 10, 20, 4, 3},
		"from one ahead of a cut":        {p, 7, 9, 20, 2, 6},
		"one tick":                       {p, 7, 9, 10, 4, 6},
		"the next tick":                  {p, 7, 10, 11, 4, 3},
		"behind all":                     {p, 7, 20, last, 4, 7},
		"behind all, one more":           {p, 7, 20, last, 5, 4},
		"all the time":                   {p, 7, 0, last, 2, 6},
		"of one node":                    {p, 2, 0, 10, 1, 2},
		"of one node that has not":       {p, 1, 0, 10, 2, 0},
		"of two nodes":                   {p, 5, 10, 11, 1, 5},
		"of no node":                     {p, 0, 0, 10, 0, 0},
		"of nodes that are not there":    {p, 8 | node31, 0, 10, 0, 0},
		"of those and some that are":     {p, every, 0, 10, 1, 7},
		"of those and one that is":       {p, every &^ 5, 0, 10, 1, 2},
		"node 31":                        {full, node31, 0, 1, 4, node31},
		"node 31, one more":              {full, node31, 0, 1, 5, 0},
		"all of MaxNodes":                {full, every, 0, last, 4, every},
		"of 31, node 31 is not there":    {full[:31], node31, 0, 1, 0, 0},
		"of 31, the rest":                {full[:31], every, 0, 1, 4, every &^ node31},
		"0 cores":                        {p, 7, 0, 11, 0, 7},
		"-1 cores":                       {p, 7, 0, 11, -1, 7},
		"-2^30 cores":                    {p, 7, 0, 11, -most, 7},
		"one below -2^30":                {p, 7, 0, 11, -most - 1, 7},
		"the least number":               {p, 7, 0, 11, math.MinInt, 7},
		"2^30 cores":                     {p, 7, 0, 11, most, 0},
		"one above 2^30":                 {p, 7, 0, 11, most + 1, 0},
		"the greatest number":            {p, 7, 0, 11, math.MaxInt, 0},
		"2^32 and what all have":         {p, 7, 0, 10, 1<<32 + 1, 0},
		"0, of none that are free":       {flats(0, 0), 3, 0, 1, 0, 3},
		"1, of none that are free":       {flats(0, 0), 3, 0, 1, 1, 0},
		"2^30, of 2^30":                  {flats(most, most-1), 3, 0, last, most, 1},
		"up to MaxTime":                  {far, 7, 0, maxTime, 2, 7},
		"beyond MaxTime":                 {far, 7, 0, maxTime + 1, 2, 6},
		"from MaxTime on":                {far, 7, maxTime, maxTime + 1, 2, 6},
		"up to ahead of 2^41":            {far, 7, 0, last - 1, 2, 6},
		"up to 2^41":                     {far, 7, 0, last, 2, 4},
		"the last tick":                  {far, 7, last - 1, last, 2, 4},
		"of MaxCuts":                     {many, 3, 0, last, 3, 3},
		"of MaxCuts, one more":           {many, 3, 0, last, 4, 2},
		"of MaxCuts, the last":           {many, 3, 40950, last, 9, 1},
		"of MaxCuts, the last and ahead": {many, 3, 40949, last, 5, 2},
	} {
		for range 2 {
			if s, e := profile.Free(c.p, c.nodes, c.from, c.to, c.c); s != c.want || e != api.OK {
				t.Errorf("%s: %b, %d, not %b", name, s, e, c.want)
			}
		}
	}
}

// wrongWindows are those that are empty, turned round, or outside of time.
func wrongWindows() map[string][2]int64 {
	return map[string][2]int64{
		"empty at 0":                  {0, 0},
		"empty at a cut":              {10, 10},
		"empty at MaxTime":            {maxTime, maxTime},
		"empty at 2^41":               {last, last},
		"turned round by one":         {6, 5},
		"turned round":                {20, 10},
		"turned round over all":       {last, 0},
		"from -1":                     {-1, 5},
		"from -1 to 0":                {-1, 0},
		"from -1 to 2^41":             {-1, last},
		"both below 0":                {-5, -1},
		"empty below 0":               {-1, -1},
		"from the least time":         {least64, 5},
		"to -1":                       {0, -1},
		"to the least time":           {0, least64},
		"one beyond 2^41":             {0, last + 1},
		"one beyond 2^41, from a cut": {10, last + 1},
		"from 2^41 on":                {last, last + 1},
		"beyond 2^41":                 {last + 1, last + 2},
		"to 2^42":                     {0, 2 * last},
		"to the greatest time":        {0, great64},
		"to all that is":              {least64, great64},
		"turned round, all that is":   {great64, least64},
		"from the greatest down":      {great64, 5},
		"from -1 to one beyond 2^41":  {-1, last + 1},
	}
}

// P12.2: Free, of windows that are none, whichever nodes are asked, none of them too.
func TestFreeWrongWindows(t *testing.T) {
	for name, p := range rightProfiles() {
		for what, w := range wrongWindows() {
			for _, nodes := range []api.Set{0, 1, 2, node31, every} {
				for _, c := range []int{0, 1, -1, math.MinInt, math.MaxInt} {
					if s, e := profile.Free(p, nodes, w[0], w[1], c); s != 0 || e != api.ErrArg {
						t.Fatalf("%s, %s, %d, %d: %d, %d", name, what, nodes, c, s, e)
					}
				}
			}
		}
	}
}

// freeOf is what Free is to tell.
func freeOf(p [][]api.Cut, nodes api.Set, from, to int64, c int) api.Set {
	var free api.Set
	for node, s := range p {
		if has(nodes, node) && leastOf(s, from, to) >= c {
			free += 1 << node
		}
	}
	return free
}

// P12.2: Free, of profiles, sets, windows and cores that look like chance.
func TestFreeMany(t *testing.T) {
	d := dice(1)
	some := 0
	for range 20000 {
		p := d.profile(maxNodes, 12)
		nodes := d.set()
		from, to := d.time(p, last), d.time(p, last)
		c := d.below(12) - 1
		want, err := api.Set(0), api.ErrArg
		if from < to {
			want, err = freeOf(p, nodes, from, to, c), api.OK
		}
		if s, e := profile.Free(p, nodes, from, to, c); s != want || e != err {
			t.Fatalf("Free(%v, %b, %d, %d, %d) = %b, %d, not %b, %d", p, nodes, from, to, c, s, e, want, err)
		}
		if want != 0 && want != nodes&first(len(p)) {
			some++
		}
	}
	if some < 3000 {
		t.Errorf("the test is wrong: some of the nodes are free in %d", some)
	}
}
