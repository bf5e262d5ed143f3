package nodes_test

import (
	"math"
	"slices"
	"testing"

	"muster/api"
	"muster/nodes"
)

// upOf is Up in plain words.
func upOf(l []api.Node) api.Set {
	s := api.Set(0)
	for i, n := range l {
		if i < maxNodes && n.Up {
			s += worth(i)
		}
	}
	return s
}

// coresOf is Cores in plain words.
func coresOf(l []api.Node) []int {
	var cores []int
	for _, n := range l {
		cores = append(cores, n.Cores)
	}
	return cores
}

// ableOf is Able in plain words.
func ableOf(l []api.Node, asked api.Set, c int) api.Set {
	s := api.Set(0)
	for i, n := range l {
		if i < maxNodes && has(asked, i) && !(n.Cores < c) {
			s += worth(i)
		}
	}
	return s
}

// manyCores are numbers that Able may be asked for.
var manyCores = []int{math.MinInt, math.MinInt + 1, -1 << 32, -65, -1, 0, 1, 2, 3, 4, 5, 7, 8, 9, 63, 64, 65, 1 << 31, 1 << 32, 1<<32 + 4, math.MaxInt - 1, math.MaxInt}

// manySets are sets that Able may be asked for: none, one node, all but one, all, and others.
func manySets() []api.Set {
	sets := []api.Set{0, every, 3, 5, 0x55555555, 0xAAAAAAAA, node31 | 1}
	for i := range maxNodes {
		sets = append(sets, worth(i), every-worth(i))
	}
	return sets
}

// P13.2: Up, with each edge that the document names.
func TestUp(t *testing.T) {
	for name, c := range map[string]struct {
		l    []api.Node
		want api.Set
	}{
		"no list":                      {nil, 0},
		"the empty list":               {[]api.Node{}, 0},
		"one":                          {of(up(4, 1)), 1},
		"one that is down":             {of(down(4, 1)), 0},
		"the first":                    {of(up(4, 1), down(4, 1)), 1},
		"the last":                     {of(down(4, 1), up(4, 1)), 2},
		"the one between":              {of(down(4, 1), up(4, 1), down(4, 1)), 2},
		"all but the one between":      {of(up(4, 1), down(4, 1), up(4, 1)), 5},
		"MaxNodes":                     {times(maxNodes, up(4, 1)), every},
		"MaxNodes, down":               {times(maxNodes, down(4, 1)), 0},
		"node 31":                      {append(times(maxNodes-1, down(4, 1)), up(4, 1)), node31},
		"all but node 31":              {append(times(maxNodes-1, up(4, 1)), down(4, 1)), every - node31},
		"one more":                     {times(maxNodes+1, up(4, 1)), every},
		"just the one more":            {append(times(maxNodes, down(4, 1)), up(4, 1)), 0},
		"all but the one more":         {append(times(maxNodes, up(4, 1)), down(4, 1)), every},
		"just those behind":            {append(times(maxNodes, down(4, 1)), times(100, up(4, 1))...), 0},
		"the first and those behind":   {append(append(of(up(4, 1)), times(maxNodes-1, down(4, 1))...), times(100, up(4, 1))...), 1},
		"many":                         {times(1<<16, up(4, 1)), every},
		"a wrong one":                  {of(up(0, 0), down(-1, -1), up(65, lastEpoch+1)), 5},
		"a wrong one among right ones": {of(up(4, 1), up(0, 1), up(4, 0), down(0, 0)), 7},
		"zero nodes":                   {make([]api.Node, 5), 0},
	} {
		for range 2 {
			if s := nodes.Up(c.l); s != c.want {
				t.Errorf("%s: %#x, not %#x", name, s, c.want)
			}
		}
	}
}

// P13.2: Cores, with each edge that the document names.
func TestCores(t *testing.T) {
	for name, c := range map[string]struct {
		l    []api.Node
		want []int
	}{
		"no list":                {nil, nil},
		"the empty list":         {[]api.Node{}, nil},
		"one":                    {of(up(4, 1)), []int{4}},
		"one that is down":       {of(down(4, 7)), []int{4}},
		"the order is theirs":    {of(up(9, 1), down(4, 2), up(64, 3), down(1, 4)), []int{9, 4, 64, 1}},
		"the same twice":         {of(up(4, 1), down(4, 2)), []int{4, 4}},
		"MaxNodes":               {times(maxNodes, up(4, 1)), times(maxNodes, 4)},
		"one more":               {append(times(maxNodes, up(4, 1)), down(5, 1)), append(times(maxNodes, 4), 5)},
		"many":                   {append(times(1<<16, up(4, 1)), up(7, 1)), append(times(1<<16, 4), 7)},
		"cores that may not be":  {of(up(0, 1), up(-1, 1), down(65, 1), up(math.MinInt, 1), up(math.MaxInt, 1)), []int{0, -1, 65, math.MinInt, math.MaxInt}},
		"Epochs that may not be": {of(up(3, 0), up(4, -1), down(5, lastEpoch+1)), []int{3, 4, 5}},
		"zero nodes":             {make([]api.Node, 3), []int{0, 0, 0}},
	} {
		for range 2 {
			if cores := nodes.Cores(c.l); !slices.Equal(cores, c.want) {
				t.Errorf("%s: %v, not %v", name, cores, c.want)
			}
		}
	}
}

// P13.2: Able, with each edge that the document names.
func TestAble(t *testing.T) {
	three := of(up(4, 1), down(8, 2), up(8, 3))
	behind := append(times(maxNodes, up(4, 1)), times(5, up(64, 1))...)
	for name, c := range map[string]struct {
		l     []api.Node
		asked api.Set
		c     int
		want  api.Set
	}{
		"one core less":                   {three, 7, 3, 7},
		"just as many":                    {three, 7, 4, 7},
		"one more":                        {three, 7, 5, 6},
		"just as many as the others have": {three, 7, 8, 6},
		"more than all have":              {three, 7, 9, 0},
		"none is asked for":               {three, 0, 1, 0},
		"none is asked for, of any":       {three, 0, math.MinInt, 0},
		"the first alone":                 {three, 1, 4, 1},
		"the first alone, too many":       {three, 1, 5, 0},
		"one that is down":                {three, 2, 8, 2},
		"one that is down, too many":      {three, 2, 9, 0},
		"all are down":                    {times(4, down(4, 1)), every, 4, 15},
		"nodes that are not there":        {three, 8, 1, 0},
		"some that are not there":         {three, 13, 1, 5},
		"node 31 is not there":            {three, node31, 1, 0},
		"all that a set has":              {three, every, 1, 7},
		"0 cores":                         {three, 7, 0, 7},
		"-1 core":                         {three, 7, -1, 7},
		"the least number":                {three, 5, math.MinInt, 5},
		"the greatest number":             {three, 7, math.MaxInt, 0},
		"MaxCores":                        {of(up(63, 1), up(64, 1)), 3, 64, 2},
		"MaxCores + 1":                    {of(up(63, 1), up(64, 1)), 3, 65, 0},
		"2^32":                            {three, 7, 1 << 32, 0},
		"2^32 + 1":                        {three, 7, 1<<32 + 1, 0},
		"-2^32 + 9":                       {three, 7, -1<<32 + 9, 7},
		"MaxNodes":                        {times(maxNodes, up(4, 1)), every, 4, every},
		"MaxNodes, but node 31":           {times(maxNodes, up(4, 1)), every - node31, 4, every - node31},
		"MaxNodes, node 31":               {times(maxNodes, up(4, 1)), node31, 4, node31},
		"node 31 alone is able":           {append(times(maxNodes-1, up(4, 1)), up(5, 1)), every, 5, node31},
		"node 31 alone is not":            {append(times(maxNodes-1, up(4, 1)), up(3, 1)), every, 4, every - node31},
		"those behind are able":           {behind, every, 5, 0},
		"those behind are able, too":      {behind, every, 4, every},
		"those behind are able, node 0":   {behind, 1, 4, 1},
		"no list":                         {nil, every, 0, 0},
		"the empty list":                  {[]api.Node{}, every, -5, 0},
		"many":                            {times(1<<16, up(4, 1)), every, 4, every},
		"cores that may not be":           {of(up(0, 1), up(-1, 1), up(65, 1)), 7, 0, 5},
		"cores that may not be, greater":  {of(up(0, 1), up(-1, 1), up(65, 1)), 7, 65, 4},
		"cores that may not be, below 0":  {of(up(0, 1), up(-1, 1), up(65, 1)), 7, -1, 7},
		"cores as far as can be":          {of(up(math.MinInt, 1), up(math.MaxInt, 1)), 3, math.MaxInt, 2},
		"cores as low as can be":          {of(up(math.MinInt, 1), up(math.MaxInt, 1)), 3, math.MinInt, 3},
		"cores one above the lowest":      {of(up(math.MinInt, 1), up(math.MaxInt, 1)), 3, math.MinInt + 1, 2},
		"Epochs that may not be":          {of(up(4, 0), down(4, -1), up(4, lastEpoch+1)), 7, 4, 7},
		"zero nodes":                      {make([]api.Node, 3), 7, 0, 7},
		"zero nodes, 1 core":              {make([]api.Node, 3), 7, 1, 0},
	} {
		for range 2 {
			if s := nodes.Able(c.l, c.asked, c.c); s != c.want {
				t.Errorf("%s: %#x, not %#x", name, s, c.want)
			}
		}
	}
}

// P13.2: all three of each list that is right or not, of each set and of any c.
func TestAskedOfAllLists(t *testing.T) {
	for name, l := range allLists() {
		if s := nodes.Up(l); s != upOf(l) {
			t.Errorf("%s: Up: %#x", name, s)
		}
		if cores := nodes.Cores(l); !slices.Equal(cores, coresOf(l)) {
			t.Errorf("%s: Cores: %d", name, len(cores))
		}
		l = l[:min(len(l), 300)]
		for _, c := range manyCores {
			for _, asked := range manySets() {
				if s := nodes.Able(l, asked, c); s != ableOf(l, asked, c) {
					t.Fatalf("%s: Able of %#x, %d: %#x", name, asked, c, s)
				}
			}
		}
	}
}

// P13.2: all three of any lists.
func TestAskedOfAny(t *testing.T) {
	d := dice(3)
	some := 0
	for range 20000 {
		l := d.list(maxNodes)
		if d.below(3) == 0 {
			l = d.wild(maxNodes + 8)
		}
		asked, c := d.set(), d.below(maxCores+2)
		if d.below(4) == 0 {
			c = manyCores[d.below(len(manyCores))]
		}
		if nodes.Up(l) != upOf(l) || !slices.Equal(nodes.Cores(l), coresOf(l)) {
			t.Fatalf("%v: %#x, %v", l, nodes.Up(l), nodes.Cores(l))
		}
		want := ableOf(l, asked, c)
		if s := nodes.Able(l, asked, c); s != want {
			t.Fatalf("Able(%v, %#x, %d) = %#x, not %#x", l, asked, c, s, want)
		}
		if want != 0 && want != ableOf(l, every, math.MinInt) {
			some++
		}
	}
	if some < 10000 {
		t.Errorf("the test is wrong: some of the nodes are able in %d", some)
	}
}

// P13.2: whether a node is up, and its Epoch, change nothing of Cores and Able; its Cores and Epoch change nothing of Up.
func TestAskedOfOneThingAlone(t *testing.T) {
	d := dice(4)
	for range 5000 {
		l := d.wild(maxNodes + 2)
		turned, other := slices.Clone(l), slices.Clone(l)
		for i := range l {
			turned[i].Up, turned[i].Epoch = !l[i].Up, d.below(99)
			other[i].Cores, other[i].Epoch = d.below(99), d.below(99)
		}
		asked, c := d.set(), manyCores[d.below(len(manyCores))]
		if nodes.Able(l, asked, c) != nodes.Able(turned, asked, c) || !slices.Equal(nodes.Cores(l), nodes.Cores(turned)) {
			t.Fatalf("%v, turned %v: Able or Cores are others", l, turned)
		}
		if nodes.Up(l) != nodes.Up(other) {
			t.Fatalf("%v, %v: Up is another", l, other)
		}
	}
}
