package nodes_test

import (
	"math"
	"slices"
	"testing"

	"muster/api"
	"muster/nodes"
)

// The tests' own numbers, so that they don't lean on what they test.
const (
	maxNodes  = 32
	maxCores  = 64
	lastEpoch = 1073741824 // 2^30
	every     = api.Set(0xFFFFFFFF)
	node31    = api.Set(0x80000000)
)

// dice are numbers that look like chance and are the same in each run.
type dice uint64

func (d *dice) next() uint64 {
	*d = *d*6364136223846793005 + 1442695040888963407
	return uint64(*d >> 32)
}

func (d *dice) below(n int) int { return int(d.next() % uint64(n)) }

// set is any set, with few nodes or with many.
func (d *dice) set() api.Set {
	s := api.Set(d.next())
	switch d.below(4) {
	case 0:
		s &= api.Set(d.next())
	case 1:
		s |= api.Set(d.next())
	}
	return s
}

// list is a right one of at most that many nodes.
func (d *dice) list(most int) []api.Node {
	var l []api.Node
	for range 1 + d.below(most) {
		l = append(l, d.node())
	}
	return l
}

// node is a right one, often at an edge.
func (d *dice) node() api.Node {
	n := api.Node{Cores: 1 + d.below(maxCores), Up: d.below(2) == 0, Epoch: 1 + d.below(lastEpoch)}
	switch d.below(6) {
	case 0:
		n.Epoch = 1
	case 1:
		n.Epoch = lastEpoch - 1
	case 2:
		n.Epoch = lastEpoch
	}
	return n
}

// wild is a list of any numbers at all, right or not.
func (d *dice) wild(most int) []api.Node {
	numbers := []int{math.MinInt, -1, 0, 1, 2, 4, 8, maxCores, maxCores + 1, lastEpoch, lastEpoch + 1, math.MaxInt}
	var l []api.Node
	for range d.below(most + 1) {
		l = append(l, api.Node{Cores: numbers[d.below(len(numbers))], Up: d.below(2) == 0, Epoch: numbers[d.below(len(numbers))]})
	}
	return l
}

// up is a node that is up.
func up(cores, epoch int) api.Node { return api.Node{Cores: cores, Up: true, Epoch: epoch} }

// down is a node that is down.
func down(cores, epoch int) api.Node { return api.Node{Cores: cores, Epoch: epoch} }

// of is the list of these nodes.
func of(l ...api.Node) []api.Node { return l }

// times is a list of n times v.
func times[T any](n int, v T) []T { return slices.Repeat([]T{v}, n) }

// rising is a list of n numbers from 1 on.
func rising(n int) []int {
	var l []int
	for i := range n {
		l = append(l, i+1)
	}
	return l
}

// worth is what node i counts in a set, told by doubling.
func worth(i int) api.Set {
	w := api.Set(1)
	for range i {
		w *= 2
	}
	return w
}

// has tells whether s has node i.
func has(s api.Set, i int) bool { return s/worth(i)%2 == 1 }

// rightLists are lists that are right.
func rightLists() map[string][]api.Node {
	return map[string][]api.Node{
		"one node":                 of(up(4, 1)),
		"one that is down":         of(down(4, 1)),
		"two":                      of(up(4, 1), up(8, 1)),
		"two, down":                of(down(4, 3), down(8, 2)),
		"1 core":                   of(up(1, 1)),
		"MaxCores":                 of(up(maxCores, 1)),
		"MaxCores, behind one":     of(up(1, 1), down(maxCores, 2)),
		"an Epoch of 2":            of(up(4, 2)),
		"an Epoch of 2^30 - 1":     of(down(4, lastEpoch-1)),
		"an Epoch of 2^30":         of(up(4, lastEpoch)),
		"an Epoch of 2^30, down":   of(down(4, lastEpoch)),
		"an Epoch of 2^30, last":   of(up(4, 1), up(4, lastEpoch)),
		"MaxNodes - 1":             times(maxNodes-1, up(4, 1)),
		"MaxNodes":                 times(maxNodes, up(4, 1)),
		"MaxNodes, down":           times(maxNodes, down(4, 9)),
		"MaxNodes, all at the top": times(maxNodes, up(maxCores, lastEpoch)),
	}
}

// wrongLists are lists that are not right.
func wrongLists() map[string][]api.Node {
	lists := map[string][]api.Node{
		"no list":          nil,
		"the empty list":   {},
		"one more":         times(maxNodes+1, up(4, 1)),
		"two more":         times(maxNodes+2, up(4, 1)),
		"twice MaxNodes":   times(2*maxNodes, up(4, 1)),
		"256":              times(256, up(4, 1)),
		"MaxNodes + 2^8":   times(maxNodes+256, up(4, 1)),
		"2^16 and 1":       times(1<<16+1, up(4, 1)),
		"a zero node":      make([]api.Node, 1),
		"MaxNodes of zero": make([]api.Node, maxNodes),
	}
	for name, n := range wrongNodes() {
		lists[name+", alone"] = of(n)
		lists[name+", first"] = of(n, up(4, 1), down(8, 2))
		lists[name+", between"] = of(up(4, 1), n, down(8, 2))
		lists[name+", last"] = of(up(4, 1), down(8, 2), n)
		lists[name+", last of MaxNodes"] = append(times(maxNodes-1, up(4, 1)), n)
	}
	return lists
}

// wrongNodes are nodes that no right list has.
func wrongNodes() map[string]api.Node {
	return map[string]api.Node{
		"no cores":                     up(0, 1),
		"no cores, down":               down(0, 1),
		"-1 core":                      up(-1, 1),
		"-1 core, down":                down(-1, 2),
		"the least cores":              up(math.MinInt, 1),
		"MaxCores + 1":                 up(maxCores+1, 1),
		"MaxCores + 1, down":           down(maxCores+1, 1),
		"2^32 + 4 cores":               up(1<<32+4, 1),
		"the greatest cores":           up(math.MaxInt, 1),
		"Epoch 0":                      up(4, 0),
		"Epoch 0, down":                down(4, 0),
		"Epoch -1":                     up(4, -1),
		"the least Epoch":              down(4, math.MinInt),
		"Epoch 2^30 + 1":               up(4, lastEpoch+1),
		"Epoch 2^30 + 1, down":         down(4, lastEpoch+1),
		"Epoch 2^32 + 1":               up(4, 1<<32+1),
		"the greatest Epoch":           up(4, math.MaxInt),
		"neither may be":               down(0, 0),
		"neither may be, at the tops":  up(maxCores+1, lastEpoch+1),
		"cores and Epoch are mixed up": up(lastEpoch, maxCores),
	}
}

// allLists are lists that are right, and others.
func allLists() map[string][]api.Node {
	lists := wrongLists()
	for name, l := range rightLists() {
		lists["right: "+name] = l
	}
	return lists
}

// newOf is New in plain words.
func newOf(cores []int) ([]api.Node, api.Errno) {
	var l []api.Node
	for _, c := range cores {
		if c <= 0 || c >= maxCores+1 {
			return nil, api.ErrArg
		}
		l = append(l, api.Node{Cores: c, Up: true, Epoch: 1})
	}
	if len(l) == 0 || len(l) >= maxNodes+1 {
		return nil, api.ErrArg
	}
	return l, api.OK
}

// isRight asks each word of the chapter for itself.
func isRight(l []api.Node) bool {
	right := len(l) > 0 && len(l) <= maxNodes
	for _, n := range l {
		right = right && n.Cores > 0 && n.Cores <= maxCores && n.Epoch > 0 && n.Epoch <= lastEpoch
	}
	return right
}

// P13.1: New, with each edge that the document names.
func TestNew(t *testing.T) {
	for name, c := range map[string]struct {
		cores []int
		want  []api.Node
		err   api.Errno
	}{
		"the chapter's":          {[]int{4, 8}, of(up(4, 1), up(8, 1)), api.OK},
		"one":                    {[]int{5}, of(up(5, 1)), api.OK},
		"one of 1 core":          {[]int{1}, of(up(1, 1)), api.OK},
		"one of MaxCores":        {[]int{maxCores}, of(up(maxCores, 1)), api.OK},
		"one of MaxCores - 1":    {[]int{maxCores - 1}, of(up(maxCores-1, 1)), api.OK},
		"the order is theirs":    {[]int{8, 1, 64, 4}, of(up(8, 1), up(1, 1), up(64, 1), up(4, 1)), api.OK},
		"MaxNodes - 1":           {times(maxNodes-1, 3), times(maxNodes-1, up(3, 1)), api.OK},
		"MaxNodes":               {times(maxNodes, 3), times(maxNodes, up(3, 1)), api.OK},
		"MaxNodes of MaxCores":   {times(maxNodes, maxCores), times(maxNodes, up(maxCores, 1)), api.OK},
		"no list":                {nil, nil, api.ErrArg},
		"the empty list":         {[]int{}, nil, api.ErrArg},
		"one more":               {times(maxNodes+1, 3), nil, api.ErrArg},
		"twice MaxNodes":         {times(2*maxNodes, 3), nil, api.ErrArg},
		"many":                   {times(1<<20, 3), nil, api.ErrArg},
		"0 cores":                {[]int{0}, nil, api.ErrArg},
		"-1 core":                {[]int{-1}, nil, api.ErrArg},
		"-64 cores":              {[]int{-maxCores}, nil, api.ErrArg},
		"MaxCores + 1":           {[]int{maxCores + 1}, nil, api.ErrArg},
		"the least number":       {[]int{math.MinInt}, nil, api.ErrArg},
		"the greatest number":    {[]int{math.MaxInt}, nil, api.ErrArg},
		"2^32 + 4":               {[]int{1<<32 + 4}, nil, api.ErrArg},
		"256 + 4":                {[]int{256 + 4}, nil, api.ErrArg},
		"a wrong one, first":     {[]int{0, 4, 8}, nil, api.ErrArg},
		"a wrong one, between":   {[]int{4, maxCores + 1, 8}, nil, api.ErrArg},
		"a wrong one, last":      {[]int{4, 8, -1}, nil, api.ErrArg},
		"MaxNodes, a wrong last": {append(times(maxNodes-1, 4), 0), nil, api.ErrArg},
		"one more, a wrong last": {append(times(maxNodes, 4), 0), nil, api.ErrArg},
	} {
		for range 2 {
			if l, e := nodes.New(c.cores); !slices.Equal(l, c.want) || e != c.err {
				t.Errorf("%s: %v, %d, not %v, %d", name, l, e, c.want, c.err)
			}
		}
	}
}

// P13.1: New of each number of cores, for itself and beside others.
func TestNewOfEachNumber(t *testing.T) {
	for c := -300; c <= 300; c++ {
		for _, cores := range [][]int{{c}, {c, 4}, {4, c}, {c, c}} {
			want, err := newOf(cores)
			if l, e := nodes.New(cores); !slices.Equal(l, want) || e != err {
				t.Errorf("New(%v) = %v, %d, not %v, %d", cores, l, e, want, err)
			}
		}
	}
	for count := range maxCores + 1 {
		want, err := newOf(rising(count))
		if l, e := nodes.New(rising(count)); !slices.Equal(l, want) || e != err {
			t.Errorf("New of %d: %v, %d, not %v, %d", count, l, e, want, err)
		}
	}
}

// P13.1: New of any cores.
func TestNewOfAny(t *testing.T) {
	d := dice(1)
	right := 0
	for range 20000 {
		var cores []int
		for range d.below(maxNodes + 4) {
			cores = append(cores, 1+d.below(maxCores))
		}
		if len(cores) > 0 && d.below(3) == 0 {
			cores[d.below(len(cores))] = []int{0, -1, maxCores + 1, math.MinInt, math.MaxInt}[d.below(5)]
		}
		want, err := newOf(cores)
		if l, e := nodes.New(cores); !slices.Equal(l, want) || e != err {
			t.Fatalf("New(%v) = %v, %d, not %v, %d", cores, l, e, want, err)
		}
		if err == api.OK {
			right++
		}
	}
	if right < 5000 || right > 15000 {
		t.Errorf("the test is wrong: %d are right", right)
	}
}

// P13.1: Right, with each edge that the document names.
func TestRight(t *testing.T) {
	for name, l := range rightLists() {
		if !nodes.Right(l) {
			t.Errorf("%s: is not right", name)
		}
	}
	for name, l := range wrongLists() {
		if nodes.Right(l) {
			t.Errorf("%s: is right", name)
		}
	}
}

// P13.1: Right, of any numbers in one place of a right list; of every length.
func TestRightOfAny(t *testing.T) {
	numbers := []int{math.MinInt, -lastEpoch, -2, -1, 0, 1, 2, 63, 64, 65, 66, 128, lastEpoch - 1, lastEpoch, lastEpoch + 1, 1 << 32, 1<<32 + 1, math.MaxInt}
	d := dice(2)
	for _, cores := range numbers {
		for _, epoch := range numbers {
			for range 20 {
				l := d.list(maxNodes)
				l[d.below(len(l))] = api.Node{Cores: cores, Up: d.below(2) == 0, Epoch: epoch}
				if nodes.Right(l) != isRight(l) {
					t.Fatalf("Right(%v) = %v", l, !isRight(l))
				}
			}
		}
	}
	for count := range 300 {
		l := times(count, down(3, 7))
		if nodes.Right(l) != (count >= 1 && count <= maxNodes) {
			t.Errorf("%d nodes: %v", count, nodes.Right(l))
		}
	}
	for range 5000 {
		if l := d.wild(3); nodes.Right(l) != isRight(l) {
			t.Fatalf("Right(%v) = %v", l, !isRight(l))
		}
	}
}
