package profile_test

import (
	"math"
	"slices"
	"strconv"
	"testing"

	"muster/api"
	"muster/profile"
	"muster/steps"
)

// text is a number in digits.
func text(n int64) string { return strconv.FormatInt(n, 10) }

// changeCase is a Take or a Give, and what it is to answer.
type changeCase struct {
	p        [][]api.Cut
	on       api.Set
	c        int
	from, to int64
	want     [][]api.Cut
	err      api.Errno
}

// with is p with another step function of one node.
func with(p [][]api.Cut, node int, s []api.Cut) [][]api.Cut {
	q := copyOf(p)
	q[node] = s
	return q
}

// stuck is a profile whose node 0 has MaxCuts cuts, 3 and 9 in turn, and whose node 1 has 5 always.
func stuck() [][]api.Cut { return of(zigzag(maxCuts, 3, 9), fn(0, 5)) }

// takes are those in which cores are taken.
func takes() map[string]changeCase {
	two := flats(4, 4)
	full := flats(times(maxNodes, 4)...)
	dent := of(fn(0, 4, 10, 1, 20, 4), fn(0, 4))
	return map[string]changeCase{
		"of node 0":                   {two, 1, 3, 0, 10, of(fn(0, 1, 10, 4), fn(0, 4)), api.OK},
		"of node 1":                   {two, 2, 3, 0, 10, of(fn(0, 4), fn(0, 1, 10, 4)), api.OK},
		"of both":                     {two, 3, 3, 5, 10, of(fn(0, 4, 5, 1, 10, 4), fn(0, 4, 5, 1, 10, 4)), api.OK},
		"of none":                     {two, 0, 3, 0, 10, two, api.OK},
		"of none, more than there is": {two, 0, 5, 0, 10, two, api.OK},
		"no cores":                    {two, 3, 0, 5, 10, two, api.OK},
		"just to 0":                   {two, 1, 4, 0, 10, of(fn(0, 0, 10, 4), fn(0, 4)), api.OK},
		"one beyond":                  {two, 1, 5, 0, 10, nil, api.ErrOver},
		"just to 0 of both":           {two, 3, 4, 0, 10, of(fn(0, 0, 10, 4), fn(0, 0, 10, 4)), api.OK},
		"just to 0 in a dent":         {dent, 1, 1, 5, 15, of(fn(0, 4, 5, 3, 10, 0, 15, 1, 20, 4), fn(0, 4)), api.OK},
		"one beyond in a dent":        {dent, 1, 2, 5, 15, nil, api.ErrOver},
		"up to a dent":                {dent, 1, 4, 5, 10, of(fn(0, 4, 5, 0, 10, 1, 20, 4), fn(0, 4)), api.OK},
		"one tick into a dent":        {dent, 1, 2, 5, 11, nil, api.ErrOver},
		"from a dent's end":           {dent, 1, 4, 20, 30, of(fn(0, 4, 10, 1, 20, 0, 30, 4), fn(0, 4)), api.OK},
		"from a dent's last tick":     {dent, 1, 4, 19, 30, nil, api.ErrOver},
		"beside a dent":               {dent, 2, 4, 10, 20, of(fn(0, 4, 10, 1, 20, 4), fn(0, 4, 10, 0, 20, 4)), api.OK},
		"of two, one has too few":     {flats(4, 3), 3, 4, 0, 10, nil, api.ErrOver},
		"of two, the first too few":   {flats(3, 4), 3, 4, 0, 10, nil, api.ErrOver},
		"of the one with enough":      {flats(4, 3), 1, 4, 0, 10, of(fn(0, 0, 10, 4), fn(0, 3)), api.OK},
		"2^30":                        {flats(most, 4), 1, most, 5, 6, of(fn(0, most, 5, 0, 6, most), fn(0, 4)), api.OK},
		"2^30, one beyond":            {flats(most-1, 4), 1, most, 5, 6, nil, api.ErrOver},
		"all the time":                {two, 1, 3, 0, last, of(fn(0, 1, last, 4), fn(0, 4)), api.OK},
		"the last tick":               {two, 1, 3, last - 1, last, of(fn(0, 4, last-1, 1, last, 4), fn(0, 4)), api.OK},
		"around MaxTime":              {two, 2, 3, maxTime, maxTime + 1, of(fn(0, 4), fn(0, 4, maxTime, 1, maxTime+1, 4)), api.OK},
		"of node 31":                  {full, node31, 3, 0, 10, with(full, 31, fn(0, 1, 10, 4)), api.OK},
		"of node 31, too many":        {full, node31, 5, 0, 10, nil, api.ErrOver},
		"of node 31, not there":       {full[:31], node31, 3, 0, 10, nil, api.ErrArg},
		"of all but node 31":          {flats(times(31, 4)...), every &^ node31, 4, 0, last, slices.Repeat(of(fn(0, 0, last, 4)), 31), api.OK},
		"of all":                      {full, every, 4, 0, last, slices.Repeat(of(fn(0, 0, last, 4)), maxNodes), api.OK},
		"of all, one beyond":          {full, every, 5, 0, last, nil, api.ErrOver},
		"of MaxCuts, cut to cut":      {stuck(), 1, 1, 0, 10, with(stuck(), 0, withFree(zigzag(maxCuts, 3, 9), 0, 2)), api.OK},
		"of MaxCuts, no cores":        {stuck(), 3, 0, 5, 6, stuck(), api.OK},
		"of MaxCuts, one more cut":    {stuck(), 1, 1, 0, 5, nil, api.ErrFull},
		"of MaxCuts, two more cuts":   {stuck(), 1, 1, 15, 16, nil, api.ErrFull},
		"beside MaxCuts":              {stuck(), 2, 5, 5, 6, with(stuck(), 1, fn(0, 5, 5, 0, 6, 5)), api.OK},
		"too many, and too many cuts": {stuck(), 1, 4, 0, 5, nil, api.ErrOver},
		"to MaxCuts":                  {of(zigzag(maxCuts-1, 3, 9)), 1, 1, 0, 5, of(slices.Insert(withFree(zigzag(maxCuts-1, 3, 9), 0, 2), 1, api.Cut{At: 5, Free: 3})), api.OK},
		"one above MaxCuts":           {of(zigzag(maxCuts-1, 3, 9)), 1, 1, 1, 5, nil, api.ErrFull},
	}
}

// withFree is s with another value at its i-th cut.
func withFree(s []api.Cut, i, free int) []api.Cut {
	s[i].Free = free
	return s
}

// gives are those in which cores are given.
func gives() map[string]changeCase {
	two := flats(4, 4)
	full := flats(times(maxNodes, 4)...)
	dent := of(fn(0, 4, 10, 1, 20, 4), fn(0, 4))
	return map[string]changeCase{
		"to node 0":                   {two, 1, 3, 0, 10, of(fn(0, 7, 10, 4), fn(0, 4)), api.OK},
		"to node 1":                   {two, 2, 3, 0, 10, of(fn(0, 4), fn(0, 7, 10, 4)), api.OK},
		"to both":                     {two, 3, 3, 5, 10, of(fn(0, 4, 5, 7, 10, 4), fn(0, 4, 5, 7, 10, 4)), api.OK},
		"to none":                     {two, 0, 3, 0, 10, two, api.OK},
		"to none, 2^30":               {two, 0, most, 0, 10, two, api.OK},
		"no cores":                    {two, 3, 0, 5, 10, two, api.OK},
		"what was taken":              {dent, 1, 3, 10, 20, two, api.OK},
		"less than was taken":         {dent, 1, 2, 10, 20, of(fn(0, 4, 10, 3, 20, 4), fn(0, 4)), api.OK},
		"a part of the time":          {dent, 1, 3, 10, 15, of(fn(0, 4, 15, 1, 20, 4), fn(0, 4)), api.OK},
		"the other part":              {dent, 1, 3, 15, 20, of(fn(0, 4, 10, 1, 15, 4), fn(0, 4)), api.OK},
		"up to 2^30":                  {two, 1, most - 4, 0, 10, of(fn(0, most, 10, 4), fn(0, 4)), api.OK},
		"one beyond 2^30":             {two, 1, most - 3, 0, 10, nil, api.ErrOver},
		"2^30 to none":                {flats(0, 4), 1, most, 5, 6, of(fn(0, 0, 5, most, 6, 0), fn(0, 4)), api.OK},
		"2^30 to one":                 {flats(1, 4), 1, most, 5, 6, nil, api.ErrOver},
		"one to 2^30":                 {flats(most, 4), 1, 1, 5, 6, nil, api.ErrOver},
		"one beside 2^30":             {flats(most, 4), 2, 1, 5, 6, of(fn(0, most), fn(0, 4, 5, 5, 6, 4)), api.OK},
		"one beyond, by one tick":     {of(fn(0, 4, 10, most)), 1, 1, 5, 11, nil, api.ErrOver},
		"just up to that tick":        {of(fn(0, 4, 10, most)), 1, 1, 5, 10, of(fn(0, 4, 5, 5, 10, most)), api.OK},
		"of two, one has too many":    {flats(4, 5), 3, most - 4, 0, 10, nil, api.ErrOver},
		"all the time":                {two, 1, 3, 0, last, of(fn(0, 7, last, 4), fn(0, 4)), api.OK},
		"the last tick":               {two, 1, 3, last - 1, last, of(fn(0, 4, last-1, 7, last, 4), fn(0, 4)), api.OK},
		"around MaxTime":              {two, 2, 3, maxTime, maxTime + 1, of(fn(0, 4), fn(0, 4, maxTime, 7, maxTime+1, 4)), api.OK},
		"to node 31":                  {full, node31, 3, 0, 10, with(full, 31, fn(0, 7, 10, 4)), api.OK},
		"to node 31, not there":       {full[:31], node31, 3, 0, 10, nil, api.ErrArg},
		"to all":                      {full, every, 4, 0, last, slices.Repeat(of(fn(0, 8, last, 4)), maxNodes), api.OK},
		"to all, one beyond 2^30":     {full, every, most - 3, 0, last, nil, api.ErrOver},
		"to MaxCuts, cut to cut":      {stuck(), 1, 1, 0, 10, with(stuck(), 0, withFree(zigzag(maxCuts, 3, 9), 0, 4)), api.OK},
		"to MaxCuts, no cores":        {stuck(), 3, 0, 5, 6, stuck(), api.OK},
		"to MaxCuts, one more cut":    {stuck(), 1, 1, 0, 5, nil, api.ErrFull},
		"to MaxCuts, that vanish":     {stuck(), 1, 6, 0, 10, with(stuck(), 0, slices.Delete(withFree(zigzag(maxCuts, 3, 9), 0, 9), 1, 2)), api.OK},
		"beside MaxCuts":              {stuck(), 2, 5, 5, 6, with(stuck(), 1, fn(0, 5, 5, 10, 6, 5)), api.OK},
		"too many, and too many cuts": {stuck(), 1, most - 2, 0, 5, nil, api.ErrOver},
		"too many at a later step":    {stuck(), 1, most - 8, 5, 15, nil, api.ErrOver},
		"not too many, but cuts":      {stuck(), 1, most - 9, 5, 15, nil, api.ErrFull},
	}
}

// P12.3: Take and Give, with each edge that the document names.
func TestTakeAndGive(t *testing.T) {
	check := func(name string, c changeCase, change func([][]api.Cut, api.Set, int, int64, int64) ([][]api.Cut, api.Errno)) {
		for range 2 {
			q, e := change(c.p, c.on, c.c, c.from, c.to)
			if e != c.err || !same(q, c.want) {
				t.Errorf("%s: %.200v, %d, not %.200v, %d", name, q, e, c.want, c.err)
			}
		}
	}
	for name, c := range takes() {
		check("Take "+name, c, profile.Take)
	}
	for name, c := range gives() {
		check("Give "+name, c, profile.Give)
	}
}

// P12.3: where nodes have unlike errors, the first one's, rising, is told.
func TestFirstNodesErrorIsTold(t *testing.T) {
	fullAt := zigzag(maxCuts, 20, 21) // has room, but not for another cut
	few := fn(0, 2)
	much := fn(0, most-2)
	fine := fn(0, 30)
	for name, c := range map[string]struct {
		p    [][]api.Cut
		on   api.Set
		take api.Errno
		give api.Errno
	}{
		"full, then few":               {of(fullAt, few), 3, api.ErrFull, api.ErrFull},
		"few, then full":               {of(few, fullAt), 3, api.ErrOver, api.ErrFull},
		"full, then much":              {of(fullAt, much), 3, api.ErrFull, api.ErrFull},
		"much, then full":              {of(much, fullAt), 3, api.ErrFull, api.ErrOver},
		"few, then much":               {of(few, much), 3, api.ErrOver, api.ErrOver},
		"fine, full, few":              {of(fine, fullAt, few), 7, api.ErrFull, api.ErrFull},
		"fine, few, full":              {of(fine, few, fullAt), 7, api.ErrOver, api.ErrFull},
		"full, fine, few":              {of(fullAt, fine, few), 7, api.ErrFull, api.ErrFull},
		"full, few, the second alone":  {of(fullAt, few), 2, api.ErrOver, api.OK},
		"few, full, the second alone":  {of(few, fullAt), 2, api.ErrFull, api.ErrFull},
		"full, few, fine, the last":    {of(fullAt, few, fine), 4, api.OK, api.OK},
		"full, few, fine, none":        {of(fullAt, few, fine), 0, api.OK, api.OK},
		"full, fine, much, first left": {of(fullAt, fine, much), 6, api.OK, api.ErrOver},
		"node 31 is not there":         {of(fullAt, few), 3 | node31, api.ErrArg, api.ErrArg},
		"the next is not there":        {of(few, fullAt), 7, api.ErrArg, api.ErrArg},
	} {
		if q, e := profile.Take(c.p, c.on, 3, 5, 6); e != c.take || e != api.OK && len(q) != 0 {
			t.Errorf("%s: Take: %d nodes, %d, not %d", name, len(q), e, c.take)
		}
		if q, e := profile.Give(c.p, c.on, 3, 5, 6); e != c.give || e != api.OK && len(q) != 0 {
			t.Errorf("%s: Give: %d nodes, %d, not %d", name, len(q), e, c.give)
		}
	}
}

// P12.3: the lowest node's error is told, at whichever places two nodes with unlike errors stand.
func TestFirstErrorAtEachPlace(t *testing.T) {
	for low := range maxNodes {
		for high := low + 1; high < maxNodes; high++ {
			p := flats(times(maxNodes, 4)...)
			p[low], p[high] = zigzag(maxCuts, 20, 21), fn(0, 2)
			if q, e := profile.Take(p, every, 3, 5, 6); e != api.ErrFull || len(q) != 0 {
				t.Fatalf("full %d, few %d: %d nodes, %d", low, high, len(q), e)
			}
			p[low], p[high] = p[high], p[low]
			if q, e := profile.Take(p, every, 3, 5, 6); e != api.ErrOver || len(q) != 0 {
				t.Fatalf("few %d, full %d: %d nodes, %d", low, high, len(q), e)
			}
		}
	}
}

// refused asks both calls for ErrArg.
func refused(t *testing.T, name string, p [][]api.Cut, on api.Set, c int, from, to int64) {
	t.Helper()
	if q, e := profile.Take(p, on, c, from, to); e != api.ErrArg || len(q) != 0 {
		t.Errorf("%s: Take of %d: %d nodes, %d", name, c, len(q), e)
	}
	if q, e := profile.Give(p, on, c, from, to); e != api.ErrArg || len(q) != 0 {
		t.Errorf("%s: Give of %d: %d nodes, %d", name, c, len(q), e)
	}
}

// P12.3: Take and Give, of what may not be: cores, windows, nodes; of no nodes, too, and ahead of all other errors.
func TestChangesRefused(t *testing.T) {
	for name, p := range rightProfiles() {
		for _, c := range []int{-1, -2, -most, -most - 1, most + 1, most + 2, 2 * most, 1<<32 + 1, math.MinInt, math.MinInt32, math.MaxInt32, math.MaxInt} {
			refused(t, name, p, 0, c, 0, 10)
			refused(t, name, p, 1, c, 0, 10)
			refused(t, name, p, first(len(p)), c, 0, last)
		}
		for what, w := range wrongWindows() {
			for _, c := range []int{0, 1, most} {
				refused(t, name+", "+what, p, 0, c, w[0], w[1])
				refused(t, name+", "+what, p, 1, c, w[0], w[1])
				refused(t, name+", "+what, p, first(len(p)), c, w[0], w[1])
			}
		}
		for node := len(p); node < maxNodes; node++ {
			for _, c := range []int{0, 1, most} {
				refused(t, name, p, 1<<node, c, 0, 10)
				refused(t, name, p, 1<<node|1, c, 0, 10)
			}
		}
		for node := range p {
			if q, e := profile.Take(p, 1<<node, 0, 0, last); e != api.OK || !same(q, p) {
				t.Errorf("%s: Take of node %d: %d", name, node, e)
			}
			if q, e := profile.Give(p, 1<<node, 0, 0, last); e != api.OK || !same(q, p) {
				t.Errorf("%s: Give of node %d: %d", name, node, e)
			}
		}
	}
}

// changed is what Take and Give are to tell: node by node, rising, what layer 11 does.
func changed(p [][]api.Cut, on api.Set, n int, from, to int64) ([][]api.Cut, api.Errno) {
	if on&^first(len(p)) != 0 || from < 0 || from >= to || to > last {
		return nil, api.ErrArg
	}
	q := copyOf(p)
	for node, s := range p {
		if !has(on, node) {
			continue
		}
		sum, e := steps.Add(s, from, to, n)
		if e != api.OK {
			return nil, e
		}
		q[node] = sum
	}
	return q, api.OK
}

// P12.3: Take and Give, of profiles, sets, windows and cores that look like chance.
func TestChangesMany(t *testing.T) {
	d := dice(2)
	seen := map[api.Errno]int{}
	for range 20000 {
		p := d.profile(maxNodes, 12)
		on := d.set()
		if d.below(6) > 0 {
			on &= first(len(p))
		}
		if d.below(2) == 0 {
			on &= d.set() & d.set()
		}
		c := d.below(4)
		from, to := d.time(p, last), d.time(p, last)
		taken, e := changed(p, on, -c, from, to)
		if q, f := profile.Take(p, on, c, from, to); e != f || !same(q, taken) {
			t.Fatalf("Take(%v, %b, %d, %d, %d) = %v, %d, not %v, %d", p, on, c, from, to, q, f, taken, e)
		}
		seen[e]++
		given, e := changed(p, on, c, from, to)
		if q, f := profile.Give(p, on, c, from, to); e != f || !same(q, given) {
			t.Fatalf("Give(%v, %b, %d, %d, %d) = %v, %d, not %v, %d", p, on, c, from, to, q, f, given, e)
		}
	}
	if seen[api.OK] < 2000 || seen[api.ErrOver] < 1000 || seen[api.ErrArg] < 1000 {
		t.Errorf("the test is wrong: %v", seen)
	}
}

// P12.3: values at all times: on the nodes of on, within the window, they are c less or more, and as they were elsewhere.
func TestChangesTickByTick(t *testing.T) {
	const ticks = 12
	d := dice(3)
	for range 3000 {
		var p [][]api.Cut
		var values [4][ticks]int
		for node := range values {
			s := fn(0, int64(d.below(5)+2))
			for at := range ticks {
				if v := d.below(5) + 2; at > 0 && d.below(3) == 0 && v != s[len(s)-1].Free {
					s = append(s, api.Cut{At: int64(at), Free: v})
				}
				values[node][at] = s[len(s)-1].Free
			}
			p = append(p, s)
		}
		on := d.set() & 15
		c := d.below(3)
		from := d.below(ticks - 1)
		to := from + 1 + d.below(ticks-1-from)
		taken, e := profile.Take(p, on, c, int64(from), int64(to))
		given, f := profile.Give(p, on, c, int64(from), int64(to))
		if e != api.OK || f != api.OK {
			t.Fatalf("%v, %b, %d, %d, %d: %d, %d", p, on, c, from, to, e, f)
		}
		for node := range values {
			for at, v := range values[node] {
				n := 0
				if has(on, node) && from <= at && at < to {
					n = c
				}
				if valueAt(taken[node], int64(at)) != v-n || valueAt(given[node], int64(at)) != v+n {
					t.Fatalf("%v, %b, %d, %d, %d: node %d at %d: %v, %v", p, on, c, from, to, node, at, taken, given)
				}
			}
		}
	}
}
