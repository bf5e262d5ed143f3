package nodes_test

import (
	"math"
	"slices"
	"testing"

	"muster/api"
	"muster/nodes"
)

// failOf is Fail in plain words.
func failOf(l []api.Node, i int) ([]api.Node, api.Errno) {
	switch {
	case !isRight(l) || i < 0 || i > len(l)-1:
		return nil, api.ErrArg
	case !l[i].Up:
		return nil, api.ErrState
	}
	return put(l, i, down(l[i].Cores, l[i].Epoch)), api.OK
}

// riseOf is Rise in plain words.
func riseOf(l []api.Node, i int) ([]api.Node, api.Errno) {
	switch {
	case !isRight(l) || i < 0 || i > len(l)-1:
		return nil, api.ErrArg
	case l[i].Up:
		return nil, api.ErrState
	case l[i].Epoch == lastEpoch:
		return nil, api.ErrOver
	}
	return put(l, i, up(l[i].Cores, l[i].Epoch+1)), api.OK
}

// put is l with another node in place i.
func put(l []api.Node, i int, n api.Node) []api.Node {
	return slices.Concat(l[:i], of(n), l[i+1:])
}

// change is Fail or Rise.
type change = func([]api.Node, int) ([]api.Node, api.Errno)

// changeCase is a list, a place, and what is told.
type changeCase struct {
	l    []api.Node
	i    int
	want []api.Node
	err  api.Errno
}

func (c changeCase) check(t *testing.T, name string, do change) {
	t.Helper()
	for range 2 {
		if l, e := do(c.l, c.i); !slices.Equal(l, c.want) || e != c.err {
			t.Errorf("%s: %v, %d, not %v, %d", name, l, e, c.want, c.err)
		}
	}
}

// noPlaces are numbers that are no places of a list of that many nodes.
func noPlaces(count int) []int {
	return []int{-1, -2, -count, -count - 1, count, count + 1, 2 * count, count + maxNodes, count + 256, count - 1<<32, count + 1<<32, math.MinInt, math.MaxInt}
}

// P13.3: Fail, with each edge that the document names.
func TestFail(t *testing.T) {
	three := of(up(4, 1), down(8, 2), up(16, 3))
	full := times(maxNodes, up(4, 1))
	for name, c := range map[string]changeCase{
		"the first":                {three, 0, of(down(4, 1), down(8, 2), up(16, 3)), api.OK},
		"the last":                 {three, 2, of(up(4, 1), down(8, 2), down(16, 3)), api.OK},
		"one that is down":         {three, 1, nil, api.ErrState},
		"below the first":          {three, -1, nil, api.ErrArg},
		"behind the last":          {three, 3, nil, api.ErrArg},
		"a place of MaxNodes":      {three, maxNodes - 1, nil, api.ErrArg},
		"alone":                    {of(up(4, 1)), 0, of(down(4, 1)), api.OK},
		"alone, below":             {of(up(4, 1)), -1, nil, api.ErrArg},
		"alone, behind":            {of(up(4, 1)), 1, nil, api.ErrArg},
		"alone, down":              {of(down(4, 1)), 0, nil, api.ErrState},
		"of MaxNodes, the first":   {full, 0, put(full, 0, down(4, 1)), api.OK},
		"of MaxNodes, the last":    {full, maxNodes - 1, put(full, maxNodes-1, down(4, 1)), api.OK},
		"of MaxNodes, behind":      {full, maxNodes, nil, api.ErrArg},
		"of MaxNodes, below":       {full, -1, nil, api.ErrArg},
		"the last that is up":      {of(down(4, 1), up(4, 1)), 1, of(down(4, 1), down(4, 1)), api.OK},
		"an Epoch of 2^30 - 1":     {of(up(4, lastEpoch-1)), 0, of(down(4, lastEpoch-1)), api.OK},
		"an Epoch of 2^30":         {of(up(4, lastEpoch)), 0, of(down(4, lastEpoch)), api.OK},
		"an Epoch of 2^30, down":   {of(down(4, lastEpoch)), 0, nil, api.ErrState},
		"MaxCores":                 {of(up(maxCores, 5)), 0, of(down(maxCores, 5)), api.OK},
		"no list":                  {nil, 0, nil, api.ErrArg},
		"the empty list":           {[]api.Node{}, 0, nil, api.ErrArg},
		"the empty list, -1":       {[]api.Node{}, -1, nil, api.ErrArg},
		"one more than MaxNodes":   {times(maxNodes+1, up(4, 1)), 0, nil, api.ErrArg},
		"another one is wrong":     {of(up(4, 1), up(0, 1)), 0, nil, api.ErrArg},
		"no place, and wrong":      {of(up(0, 1)), 1, nil, api.ErrArg},
		"ErrArg ahead of ErrState": {of(down(4, 0)), 0, nil, api.ErrArg},
		"the same, another wrong":  {of(down(4, 1), up(4, 0)), 0, nil, api.ErrArg},
		"the same, too many":       {times(maxNodes+1, down(4, 1)), 0, nil, api.ErrArg},
		"the same, behind":         {of(down(4, 1)), 1, nil, api.ErrArg},
	} {
		c.check(t, name, nodes.Fail)
	}
}

// P13.3: Rise, with each edge that the document names.
func TestRise(t *testing.T) {
	three := of(down(4, 1), up(8, 2), down(16, 3))
	full := times(maxNodes, down(4, 1))
	for name, c := range map[string]changeCase{
		"the first":                   {three, 0, of(up(4, 2), up(8, 2), down(16, 3)), api.OK},
		"the last":                    {three, 2, of(down(4, 1), up(8, 2), up(16, 4)), api.OK},
		"one that is up":              {three, 1, nil, api.ErrState},
		"below the first":             {three, -1, nil, api.ErrArg},
		"behind the last":             {three, 3, nil, api.ErrArg},
		"a place of MaxNodes":         {three, maxNodes - 1, nil, api.ErrArg},
		"alone":                       {of(down(4, 1)), 0, of(up(4, 2)), api.OK},
		"alone, below":                {of(down(4, 1)), -1, nil, api.ErrArg},
		"alone, behind":               {of(down(4, 1)), 1, nil, api.ErrArg},
		"alone, up":                   {of(up(4, 1)), 0, nil, api.ErrState},
		"of MaxNodes, the first":      {full, 0, put(full, 0, up(4, 2)), api.OK},
		"of MaxNodes, the last":       {full, maxNodes - 1, put(full, maxNodes-1, up(4, 2)), api.OK},
		"of MaxNodes, behind":         {full, maxNodes, nil, api.ErrArg},
		"of MaxNodes, below":          {full, -1, nil, api.ErrArg},
		"an Epoch of 2^30 - 2":        {of(down(4, lastEpoch-2)), 0, of(up(4, lastEpoch-1)), api.OK},
		"an Epoch of 2^30 - 1":        {of(down(4, lastEpoch-1)), 0, of(up(4, lastEpoch)), api.OK},
		"an Epoch of 2^30":            {of(down(4, lastEpoch)), 0, nil, api.ErrOver},
		"the last of MaxNodes, 2^30":  {put(full, maxNodes-1, down(4, lastEpoch)), maxNodes - 1, nil, api.ErrOver},
		"another one's is 2^30":       {of(down(4, 1), down(4, lastEpoch)), 0, of(up(4, 2), down(4, lastEpoch)), api.OK},
		"MaxCores":                    {of(down(maxCores, 5)), 0, of(up(maxCores, 6)), api.OK},
		"no list":                     {nil, 0, nil, api.ErrArg},
		"the empty list":              {[]api.Node{}, 0, nil, api.ErrArg},
		"the empty list, -1":          {[]api.Node{}, -1, nil, api.ErrArg},
		"one more than MaxNodes":      {times(maxNodes+1, down(4, 1)), 0, nil, api.ErrArg},
		"another one is wrong":        {of(down(4, 1), up(0, 1)), 0, nil, api.ErrArg},
		"no place, and wrong":         {of(down(0, 1)), 1, nil, api.ErrArg},
		"ErrArg ahead of ErrState":    {of(up(4, 0)), 0, nil, api.ErrArg},
		"the same, above 2^30":        {of(up(4, lastEpoch+1)), 0, nil, api.ErrArg},
		"the same, another wrong":     {of(up(4, 1), up(4, 0)), 0, nil, api.ErrArg},
		"the same, too many":          {times(maxNodes+1, up(4, 1)), 0, nil, api.ErrArg},
		"the same, behind":            {of(up(4, 1)), 1, nil, api.ErrArg},
		"ErrArg ahead of ErrOver":     {of(down(4, lastEpoch), up(0, 1)), 0, nil, api.ErrArg},
		"the same, the cores":         {of(down(65, lastEpoch)), 0, nil, api.ErrArg},
		"the same, the Epoch":         {of(down(4, lastEpoch+1)), 0, nil, api.ErrArg},
		"the same, behind a last one": {of(down(4, lastEpoch)), 1, nil, api.ErrArg},
		"the same, one too many":      {times(maxNodes+1, down(4, lastEpoch)), 0, nil, api.ErrArg},
		"ErrState ahead of ErrOver":   {of(up(4, lastEpoch)), 0, nil, api.ErrState},
	} {
		c.check(t, name, nodes.Rise)
	}
}

// P13.3: every place of right lists, and numbers that are none.
func TestChangeOfEachPlace(t *testing.T) {
	for name, l := range rightLists() {
		for i := range l {
			failed, e := failOf(l, i)
			changeCase{l, i, failed, e}.check(t, name, nodes.Fail)
			risen, e := riseOf(l, i)
			changeCase{l, i, risen, e}.check(t, name, nodes.Rise)
		}
		for _, i := range noPlaces(len(l)) {
			changeCase{l, i, nil, api.ErrArg}.check(t, name, nodes.Fail)
			changeCase{l, i, nil, api.ErrArg}.check(t, name, nodes.Rise)
		}
	}
}

// P13.3: every place of lists that are not right is refused.
func TestChangeOfWrongLists(t *testing.T) {
	for name, l := range wrongLists() {
		for _, i := range append(noPlaces(len(l)), 0, 1, 2, 31, 32, len(l)-1) {
			changeCase{l, i, nil, api.ErrArg}.check(t, name, nodes.Fail)
			changeCase{l, i, nil, api.ErrArg}.check(t, name, nodes.Rise)
		}
	}
}

// P13.3: any lists and places.
func TestChangeOfAny(t *testing.T) {
	d := dice(5)
	var told [2]map[api.Errno]int
	for k := range told {
		told[k] = map[api.Errno]int{}
	}
	for range 30000 {
		l := d.list(maxNodes)
		if d.below(6) == 0 {
			l = d.wild(maxNodes + 4)
		}
		i := d.below(len(l)+2) - 1
		if len(l) > 0 && d.below(4) > 0 {
			i = d.below(len(l))
		}
		failed, e := failOf(l, i)
		if m, f := nodes.Fail(l, i); !slices.Equal(m, failed) || f != e {
			t.Fatalf("Fail(%v, %d) = %v, %d, not %v, %d", l, i, m, f, failed, e)
		}
		risen, g := riseOf(l, i)
		if m, f := nodes.Rise(l, i); !slices.Equal(m, risen) || f != g {
			t.Fatalf("Rise(%v, %d) = %v, %d, not %v, %d", l, i, m, f, risen, g)
		}
		told[0][e]++
		told[1][g]++
	}
	for k, want := range [][]api.Errno{{api.OK, api.ErrArg, api.ErrState}, {api.OK, api.ErrArg, api.ErrState, api.ErrOver}} {
		for _, e := range want {
			if told[k][e] < 500 {
				t.Errorf("the test is wrong: %d is told %d times", e, told[k][e])
			}
		}
	}
}
