package steps_test

import (
	"math"
	"slices"
	"testing"

	"muster/api"
	"muster/steps"
)

// The tests' own numbers, so that they don't lean on what they test.
const (
	most    = 1073741824
	maxTime = int64(1099511627776)
	last    = int64(2199023255552) // 2^41: the last end of a window
	maxCuts = 4096
	least64 = int64(math.MinInt64)
	great64 = int64(math.MaxInt64)
)

// dice are numbers that look like chance and are the same in each run.
type dice uint64

func (d *dice) next() uint64 {
	*d = *d*6364136223846793005 + 1442695040888963407
	return uint64(*d >> 32)
}

func (d *dice) below(n int) int { return int(d.next() % uint64(n)) }

// fn is a list of cuts, each told by its time and its value.
func fn(pairs ...int64) []api.Cut {
	var s []api.Cut
	for i := 0; i < len(pairs); i += 2 {
		s = append(s, api.Cut{At: pairs[i], Free: int(pairs[i+1])})
	}
	return s
}

// zigzag is n cuts, at 0, 10, 20 and so on, whose values are low and high in turn.
func zigzag(n, low, high int) []api.Cut {
	var s []api.Cut
	for i := range n {
		s = append(s, api.Cut{At: int64(i) * 10, Free: low + i%2*(high-low)})
	}
	return s
}

// ofValues is the step function with these values at these times, with cuts only where they change.
func ofValues(times []int64, values []int) []api.Cut {
	var s []api.Cut
	for i, v := range values {
		if i == 0 || v != values[i-1] {
			s = append(s, api.Cut{At: times[i], Free: v})
		}
	}
	return s
}

// eachValues tells all lists of n values from low to low + 2.
func eachValues(n, low int, tell func(values []int)) {
	values := make([]int, n)
	var grow func(i int)
	grow = func(i int) {
		if i == n {
			tell(values)
			return
		}
		for v := range 3 {
			values[i] = low + v
			grow(i + 1)
		}
	}
	grow(0)
}

// grids are times in which tests lay their step functions: tick by tick, around MaxTime, and up to the last end.
func grids() [][]int64 {
	return [][]int64{
		{0, 1, 2, 3, 4, 5},
		{0, 10, 11, 20, 1000, 1 << 30},
		{0, maxTime - 2, maxTime - 1, maxTime, maxTime + 1, maxTime + 2},
		{0, 1, last - 3, last - 2, last - 1, last},
	}
}

// around are the times of a grid with those one ahead of and one behind each, as far as there are such; rising.
func around(grid []int64) []int64 {
	var l []int64
	for _, t := range grid {
		for _, u := range []int64{t - 1, t, t + 1} {
			if u >= 0 && u <= last {
				l = append(l, u)
			}
		}
	}
	slices.Sort(l)
	return slices.Compact(l)
}

// valueAt is the value at t, looked for from the end on: what tests reckon with.
func valueAt(s []api.Cut, t int64) int {
	for _, c := range slices.Backward(s) {
		if c.At <= t {
			return c.Free
		}
	}
	return -1
}

// leastOf is the least of the values where the window begins and at each cut within it.
func leastOf(s []api.Cut, from, to int64) int {
	least := valueAt(s, from)
	for _, c := range s {
		if from < c.At && c.At < to && c.Free < least {
			least = c.Free
		}
	}
	return least
}

// function is a right step function of at most that many cuts, with times close together or far apart.
func (d *dice) function(cuts int) []api.Cut {
	s := []api.Cut{{At: 0, Free: d.value()}}
	wide := int64(1) << d.below(38)
	for range d.below(cuts) {
		before := s[len(s)-1]
		c := api.Cut{At: before.At + 1 + int64(d.next())%wide, Free: d.value()}
		if c.At > last || c.Free == before.Free {
			break
		}
		s = append(s, c)
	}
	return s
}

// value is a small one, a great one or one in between.
func (d *dice) value() int {
	switch d.below(6) {
	case 0:
		return d.below(3)
	case 1:
		return most - d.below(3)
	case 2:
		return d.below(most + 1)
	}
	return d.below(40)
}

// time is one close to a cut, or anywhere, from 0 to at most.
func (d *dice) time(s []api.Cut, most int64) int64 {
	t := s[d.below(len(s))].At + int64(d.below(5)) - 2
	if d.below(4) == 0 {
		t = int64(d.next()<<20^d.next()) % (most + 1)
	}
	return min(max(t, 0), most)
}

// wrongFunctions are lists of cuts that are no right step functions, by what is wrong with them.
func wrongFunctions() map[string][]api.Cut {
	tooMany := zigzag(maxCuts+1, 1, 2)
	wrongLast := zigzag(maxCuts, 1, 2)
	wrongLast[maxCuts-1].Free = 1
	wrongMiddle := zigzag(maxCuts, 1, 2)
	wrongMiddle[2000].At++
	wrongMiddle[2001].At = wrongMiddle[2000].At
	return map[string][]api.Cut{
		"no list":                            nil,
		"no cut":                             {},
		"no cut, but room":                   fn(0, 4)[:0],
		"one cut above MaxCuts":              tooMany,
		"twice MaxCuts":                      zigzag(2*maxCuts, 1, 2),
		"very many cuts":                     zigzag(100000, 1, 2),
		"a first At of 1":                    fn(1, 4),
		"a first At of -1":                   fn(-1, 4),
		"a first At of -1, and one of 0":     fn(-1, 4, 0, 5),
		"a first At of 2^41":                 fn(last, 4),
		"a first At that is the least":       fn(least64, 4),
		"a first At that is the greatest":    fn(great64, 4),
		"a first At of 1, and one behind it": fn(1, 4, 2, 5),
		"Ats that fall":                      fn(0, 4, 10, 5, 9, 4),
		"Ats that fall below 0":              fn(0, 4, -1, 5),
		"Ats that fall to 0":                 fn(0, 4, 5, 6, 0, 7),
		"Ats that fall to the least":         fn(0, 4, least64, 5),
		"Ats that fall at the end":           fn(0, 4, 10, 5, 20, 4, 15, 6),
		"0 twice":                            fn(0, 4, 0, 5),
		"an At twice":                        fn(0, 4, 10, 5, 10, 6),
		"2^41 twice":                         fn(0, 4, last, 5, last, 6),
		"an At twice, not side by side":      fn(0, 4, 10, 5, 20, 6, 10, 7),
		"an At twice, among very many":       wrongMiddle,
		"an At one above 2^41":               fn(0, 4, last+1, 5),
		"an At one above 2^41, behind it":    fn(0, 4, last, 5, last+1, 6),
		"an At of 2^42":                      fn(0, 4, 2*last, 5),
		"the greatest At":                    fn(0, 4, great64, 5),
		"a Free of -1":                       fn(0, -1),
		"a Free of -1, behind":               fn(0, 4, 10, -1),
		"a Free of -1, between":              fn(0, 4, 10, -1, 20, 4),
		"a Free of -2^30":                    fn(0, -most),
		"the least Free":                     fn(0, int64(math.MinInt)),
		"the least Free, behind":             fn(0, 4, 10, int64(math.MinInt)),
		"a Free one above 2^30":              fn(0, most+1),
		"a Free one above 2^30, behind":      fn(0, 4, 10, most+1),
		"a Free one above 2^30, between":     fn(0, 4, 10, most+1, 20, 4),
		"a Free of 2^31":                     fn(0, 2*most),
		"a Free of 2^32":                     fn(0, 4*most),
		"the greatest Free":                  fn(0, int64(math.MaxInt)),
		"the greatest Free, behind":          fn(0, 4, 10, int64(math.MaxInt)),
		"the same Free twice":                fn(0, 4, 10, 4),
		"the same Free twice, behind":        fn(0, 4, 10, 5, 20, 5),
		"the same Free twice, between":       fn(0, 4, 10, 5, 20, 5, 30, 4),
		"the Free 0 twice":                   fn(0, 0, 1, 0),
		"the Free 2^30 twice":                fn(0, 4, 1, most, 2, most),
		"the same Free twice at 2^41":        fn(0, 4, last-1, 5, last, 5),
		"the same Free twice, at MaxCuts":    wrongLast,
	}
}

// rightFunctions are right step functions, by what is at their edge.
func rightFunctions() map[string][]api.Cut {
	return map[string][]api.Cut{
		"0 always":                   fn(0, 0),
		"4 always":                   fn(0, 4),
		"2^30 always":                fn(0, most),
		"the chapter's one":          fn(0, 4, 10, 1, 20, 4),
		"a cut at 1":                 fn(0, 4, 1, 5),
		"a cut at each of few times": fn(0, 4, 1, 5, 2, 4, 3, 5, 4, 6),
		"a cut at MaxTime":           fn(0, 4, maxTime, 5),
		"cuts around MaxTime":        fn(0, 4, maxTime-1, 5, maxTime, 4, maxTime+1, 3),
		"a cut ahead of 2^41":        fn(0, 4, last-1, 5),
		"a cut at 2^41":              fn(0, 4, last, 5),
		"cuts ahead of 2^41 and at":  fn(0, 4, last-1, 5, last, 4),
		"from 0 to 2^30 and back":    fn(0, 0, 5, most, 6, 0),
		"a Free again, behind a gap": fn(0, 4, 10, 5, 20, 4, 30, 5),
		"one below MaxCuts":          zigzag(maxCuts-1, 0, most),
		"MaxCuts":                    zigzag(maxCuts, 1, 2),
		"room behind":                append(make([]api.Cut, 0, 9), fn(0, 4, 10, 1)...),
	}
}

// P11.1: Flat, with each edge that the document names.
func TestFlat(t *testing.T) {
	for _, n := range []int{0, 1, 2, 4, 63, 64, 65535, most - 1, most} {
		s, e := steps.Flat(n)
		if e != api.OK || !slices.Equal(s, fn(0, int64(n))) || !steps.Right(s) {
			t.Errorf("Flat(%d) = %v, %d", n, s, e)
		}
		for _, at := range []int64{0, 1, 2, maxTime, maxTime + 1, last - 1, last} {
			if v, e := steps.At(s, at); v != n || e != api.OK {
				t.Errorf("Flat(%d) is %d, %d at %d", n, v, e, at)
			}
		}
	}
	for _, n := range []int{-1, -2, -most, -most - 1, most + 1, most + 2, 2 * most, 4 * most, 4*most + 5, math.MinInt, math.MinInt + 4, math.MinInt32, math.MaxInt32, math.MaxInt} {
		if s, e := steps.Flat(n); len(s) != 0 || e != api.ErrArg {
			t.Errorf("Flat(%d) = %v, %d", n, s, e)
		}
	}
}

// P11.1: Right, with each edge that the document names.
func TestRight(t *testing.T) {
	for name, s := range rightFunctions() {
		if !steps.Right(s) {
			t.Errorf("%s: is right: %.80v", name, s)
		}
	}
	for name, s := range wrongFunctions() {
		if steps.Right(s) {
			t.Errorf("%s: is not right", name)
		}
	}
}

// isRight asks each word of the chapter for itself.
func isRight(s []api.Cut) bool {
	values := func(c api.Cut) bool { return c.Free < 0 || c.Free > most }
	times := func(c api.Cut) bool { return c.At > last }
	if len(s) < 1 || len(s) > maxCuts || s[0].At != 0 || slices.ContainsFunc(s, values) || slices.ContainsFunc(s, times) {
		return false
	}
	rise := slices.IsSortedFunc(s, func(a, b api.Cut) int {
		if a.At > b.At {
			return 1
		}
		return -1
	})
	var ats []int64
	var frees []int
	for _, c := range s {
		ats, frees = append(ats, c.At), append(frees, c.Free)
	}
	twice := len(slices.Compact(slices.Clone(ats))) < len(ats)
	same := len(slices.Compact(slices.Clone(frees))) < len(frees)
	return rise && !twice && !same
}

// P11.1: Right, of all lists of up to three cuts out of times and values at and around the edges.
func TestRightAllShortLists(t *testing.T) {
	ats := []int64{-1, 0, 1, 2, last, last + 1}
	frees := []int{-1, 0, 1, most, most + 1}
	right := 0
	var grow func(s []api.Cut)
	grow = func(s []api.Cut) {
		want := isRight(s)
		if steps.Right(s) != want {
			t.Fatalf("Right(%v) is not %v", s, want)
		}
		if want {
			right++
		}
		for _, at := range ats {
			for _, free := range frees {
				if len(s) < 3 {
					grow(append(slices.Clone(s), api.Cut{At: at, Free: free}))
				}
			}
		}
	}
	grow(nil)
	if right != 3+3*2*3+3*2*2*3 {
		t.Errorf("the test is wrong: %d of its lists are right", right)
	}
}

// P11.1: Right, of right step functions in which one number is changed.
func TestRightOneOff(t *testing.T) {
	d := dice(1)
	wrong := 0
	for range 20000 {
		s := d.function(8)
		if !steps.Right(s) {
			t.Fatalf("is right: %v", s)
		}
		i := d.below(len(s))
		switch d.below(4) {
		case 0:
			s[i].At = s[d.below(len(s))].At
		case 1:
			s[i].At += int64(d.below(5)) - 2
		case 2:
			s[i].Free = s[d.below(len(s))].Free
		case 3:
			s[i].Free += d.below(5) - 2
		}
		want := isRight(s)
		if !want {
			wrong++
		}
		if steps.Right(s) != want {
			t.Fatalf("Right(%v) is not %v", s, want)
		}
	}
	if wrong < 2000 || wrong > 18000 {
		t.Errorf("the test is wrong: %d of its lists are not right", wrong)
	}
}

// P11.2 to P11.4: what is not right is refused in all calls.
func TestWrongFunctionsAreRefused(t *testing.T) {
	for name, s := range wrongFunctions() {
		if v, e := steps.At(s, 0); v != 0 || e != api.ErrArg {
			t.Errorf("%s: At: %d, %d", name, v, e)
		}
		if v, e := steps.Least(s, 0, 1); v != 0 || e != api.ErrArg {
			t.Errorf("%s: Least: %d, %d", name, v, e)
		}
		for _, n := range []int{0, 1, -1} {
			if l, e := steps.Add(s, 0, 1, n); len(l) != 0 || e != api.ErrArg {
				t.Errorf("%s: Add of %d: %d cuts, %d", name, n, len(l), e)
			}
		}
		for _, n := range []int{0, 1, most} {
			if at, e := steps.Fit(s, 0, 1, n); at != 0 || e != api.ErrArg {
				t.Errorf("%s: Fit of %d: %d, %d", name, n, at, e)
			}
		}
	}
}

// P11.2: At, at each edge: cuts, one ahead of and one behind them, MaxTime, 2^41.
func TestAt(t *testing.T) {
	for name, c := range map[string]struct {
		s    []api.Cut
		at   int64
		want int
	}{
		"flat, at 0":              {fn(0, 4), 0, 4},
		"flat, at 2^41":           {fn(0, 4), last, 4},
		"0, at MaxTime":           {fn(0, 0), maxTime, 0},
		"2^30, one above MaxTime": {fn(0, most), maxTime + 1, most},
		"at 0":                    {fn(0, 4, 10, 1, 20, 5), 0, 4},
		"at 1":                    {fn(0, 4, 10, 1, 20, 5), 1, 4},
		"ahead of a cut":          {fn(0, 4, 10, 1, 20, 5), 9, 4},
		"at a cut":                {fn(0, 4, 10, 1, 20, 5), 10, 1},
		"behind a cut":            {fn(0, 4, 10, 1, 20, 5), 11, 1},
		"ahead of the last cut":   {fn(0, 4, 10, 1, 20, 5), 19, 1},
		"at the last cut":         {fn(0, 4, 10, 1, 20, 5), 20, 5},
		"behind the last cut":     {fn(0, 4, 10, 1, 20, 5), 21, 5},
		"at MaxTime":              {fn(0, 4, 10, 1, 20, 5), maxTime, 5},
		"at 2^41":                 {fn(0, 4, 10, 1, 20, 5), last, 5},
		"a cut at 1, at 0":        {fn(0, 4, 1, 5), 0, 4},
		"a cut at 1, at 1":        {fn(0, 4, 1, 5), 1, 5},
		"ahead of one at 2^41":    {fn(0, 4, last, 5), last - 1, 4},
		"at one at 2^41":          {fn(0, 4, last, 5), last, 5},
		"at one ahead of 2^41":    {fn(0, 4, last-1, 5), last - 1, 5},
		"behind it":               {fn(0, 4, last-1, 5), last, 5},
		"both there":              {fn(0, 4, last-1, 5, last, 6), last, 6},
		"of MaxCuts, the first":   {zigzag(maxCuts, 1, 2), 9, 1},
		"of MaxCuts, the second":  {zigzag(maxCuts, 1, 2), 10, 2},
		"of MaxCuts, the last":    {zigzag(maxCuts, 1, 2), 40950, 2},
		"of MaxCuts, ahead of it": {zigzag(maxCuts, 1, 2), 40949, 1},
		"of MaxCuts, behind it":   {zigzag(maxCuts, 1, 2), last, 2},
	} {
		for range 2 {
			if v, e := steps.At(c.s, c.at); v != c.want || e != api.OK {
				t.Errorf("%s: %d, %d, not %d", name, v, e, c.want)
			}
		}
	}
}

// P11.2: At, of times that are none.
func TestAtWrongTimes(t *testing.T) {
	for name, s := range rightFunctions() {
		for _, at := range []int64{-1, -2, -10, -maxTime, -last, least64, least64 + 1, last + 1, last + 2, 2 * last, 4*last + 5, great64 - 1, great64} {
			if v, e := steps.At(s, at); v != 0 || e != api.ErrArg {
				t.Errorf("%s: At(%d) = %d, %d", name, at, v, e)
			}
		}
	}
}

// P11.2: Least, of windows that begin and end at cuts, ahead of and behind them, within one step and over many.
func TestLeast(t *testing.T) {
	low := fn(0, 4, 10, 1, 20, 5, 30, 2)
	for name, c := range map[string]struct {
		s        []api.Cut
		from, to int64
		want     int
	}{
		"flat, one tick":               {fn(0, 4), 0, 1, 4},
		"flat, always":                 {fn(0, 4), 0, last, 4},
		"flat, the last tick":          {fn(0, 4), last - 1, last, 4},
		"0 always":                     {fn(0, 0), 0, last, 0},
		"2^30 always":                  {fn(0, most), 0, last, most},
		"up to a cut":                  {low, 0, 10, 4},
		"one tick beyond a cut":        {low, 0, 11, 1},
		"one tick less":                {low, 0, 9, 4},
		"ahead of a cut, up to it":     {low, 9, 10, 4},
		"ahead of a cut, beyond it":    {low, 9, 11, 1},
		"from a cut on":                {low, 10, 11, 1},
		"cut to cut":                   {low, 10, 20, 1},
		"behind a cut":                 {low, 11, 12, 1},
		"within a step":                {low, 12, 18, 1},
		"the last tick of a low one":   {low, 19, 21, 1},
		"the end of a low one":         {low, 20, 21, 5},
		"a high one whole":             {low, 20, 30, 5},
		"a high one and a tick behind": {low, 20, 31, 2},
		"a high one and a tick ahead":  {low, 19, 30, 1},
		"behind all cuts":              {low, 31, 1000, 2},
		"from the last cut on":         {low, 30, last, 2},
		"all":                          {low, 0, last, 1},
		"over two":                     {low, 5, 25, 1},
		"the low one in the middle":    {low, 0, 40, 1},
		"up to MaxTime":                {low, 25, maxTime, 2},
		"behind MaxTime":               {low, maxTime + 1, maxTime + 2, 2},
		"a cut at MaxTime, up to it":   {fn(0, 4, maxTime, 1), 0, maxTime, 4},
		"a cut at MaxTime, beyond it":  {fn(0, 4, maxTime, 1), 0, maxTime + 1, 1},
		"from MaxTime on":              {fn(0, 1, maxTime, 4), maxTime, last, 4},
		"a cut at 2^41 is not reached": {fn(0, 4, last, 1), 0, last, 4},
		"one ahead of 2^41 is":         {fn(0, 4, last-1, 1), 0, last, 1},
		"that one alone":               {fn(0, 4, last-1, 1), last - 1, last, 1},
		"up to that one":               {fn(0, 4, last-1, 1), 0, last - 1, 4},
		"the first is the least":       {fn(0, 0, 1, 5, 2, 6), 0, 100, 0},
		"the first is just left out":   {fn(0, 0, 1, 5, 2, 6), 1, 100, 5},
		"the last is the least":        {fn(0, 7, 1, 6, 2, 5), 0, 100, 5},
		"the last is just left out":    {fn(0, 7, 1, 6, 2, 5), 0, 2, 6},
		"from 0 to 2^30":               {fn(0, most, 5, 0, 6, most), 0, 5, most},
		"a single 0":                   {fn(0, most, 5, 0, 6, most), 0, 6, 0},
		"behind a single 0":            {fn(0, most, 5, 0, 6, most), 6, last, most},
		"of MaxCuts, all":              {zigzag(maxCuts, 3, 9), 0, last, 3},
		"of MaxCuts, the last":         {zigzag(maxCuts, 3, 9), 40950, last, 9},
		"of MaxCuts, the last and one": {zigzag(maxCuts, 3, 9), 40949, last, 3},
	} {
		for range 2 {
			if v, e := steps.Least(c.s, c.from, c.to); v != c.want || e != api.OK {
				t.Errorf("%s: %d, %d, not %d", name, v, e, c.want)
			}
		}
	}
}

// wrongWindows are those that are empty, turned round, or outside of time.
func wrongWindows() map[string][2]int64 {
	return map[string][2]int64{
		"empty at 0":                   {0, 0},
		"empty at a cut":               {10, 10},
		"empty at MaxTime":             {maxTime, maxTime},
		"empty at 2^41":                {last, last},
		"turned round by one":          {6, 5},
		"turned round":                 {20, 10},
		"turned round over all":        {last, 0},
		"from -1":                      {-1, 5},
		"from -1 to 0":                 {-1, 0},
		"both below 0":                 {-5, -1},
		"empty below 0":                {-1, -1},
		"from the least time":          {least64, 5},
		"from the least to 2^41":       {least64, last},
		"to -1":                        {0, -1},
		"to the least time":            {0, least64},
		"one beyond 2^41":              {0, last + 1},
		"one beyond 2^41, from a cut":  {10, last + 1},
		"from 2^41 on":                 {last, last + 1},
		"beyond 2^41":                  {last + 1, last + 2},
		"to 2^42":                      {0, 2 * last},
		"to the greatest time":         {0, great64},
		"to all that is":               {least64, great64},
		"turned round, all that is":    {great64, least64},
		"from the greatest":            {great64, great64},
		"from the greatest down":       {great64, 5},
		"that would wrap round":        {great64, least64 + 5},
		"empty at the least":           {least64, least64},
		"from -1 to one beyond 2^41":   {-1, last + 1},
		"as many as 2^64 apart, and 1": {-(1 << 62), 1 << 62},
	}
}

// P11.2: Least, of windows that are none.
func TestLeastWrongWindows(t *testing.T) {
	for name, s := range rightFunctions() {
		for what, w := range wrongWindows() {
			if v, e := steps.Least(s, w[0], w[1]); v != 0 || e != api.ErrArg {
				t.Errorf("%s, %s: %d, %d", name, what, v, e)
			}
		}
	}
}

// P11.2: At and Least, of all step functions with three values over six ticks, tick by tick.
func TestEveryTick(t *testing.T) {
	const ticks = 9
	for _, low := range []int{0, most - 2} {
		eachValues(6, low, func(values []int) {
			s := ofValues(grids()[0], values)
			var all [ticks]int
			for i := range all {
				all[i] = values[min(i, len(values)-1)]
				if v, e := steps.At(s, int64(i)); v != all[i] || e != api.OK {
					t.Fatalf("At(%v, %d) = %d, %d", s, i, v, e)
				}
			}
			for from := range ticks {
				for to := from + 1; to <= ticks; to++ {
					want := slices.Min(all[from:to])
					if v, e := steps.Least(s, int64(from), int64(to)); v != want || e != api.OK {
						t.Fatalf("Least(%v, %d, %d) = %d, %d, not %d", s, from, to, v, e, want)
					}
				}
			}
		})
	}
}

// P11.2: At and Least, of step functions far out, at and around all their cuts.
func TestFarOut(t *testing.T) {
	for _, grid := range grids() {
		times := around(grid)
		eachValues(len(grid), 0, func(values []int) {
			s := ofValues(grid, values)
			for i, from := range times {
				if v, e := steps.At(s, from); v != valueAt(s, from) || e != api.OK {
					t.Fatalf("At(%v, %d) = %d, %d", s, from, v, e)
				}
				for _, to := range times[i+1:] {
					if v, e := steps.Least(s, from, to); v != leastOf(s, from, to) || e != api.OK {
						t.Fatalf("Least(%v, %d, %d) = %d, %d", s, from, to, v, e)
					}
				}
			}
		})
	}
}

// P11.2: At and Least, of step functions and times that look like chance.
func TestAtAndLeastMany(t *testing.T) {
	d := dice(2)
	for range 30000 {
		s := d.function(30)
		at := d.time(s, last)
		if v, e := steps.At(s, at); v != valueAt(s, at) || e != api.OK {
			t.Fatalf("At(%v, %d) = %d, %d", s, at, v, e)
		}
		from, to := d.time(s, last), d.time(s, last)
		want, err := 0, api.ErrArg
		if from < to {
			want, err = leastOf(s, from, to), api.OK
		}
		if v, e := steps.Least(s, from, to); v != want || e != err {
			t.Fatalf("Least(%v, %d, %d) = %d, %d, not %d, %d", s, from, to, v, e, want, err)
		}
	}
}
