package deps_test

import (
	"math"
	"slices"
	"strconv"
	"testing"

	"muster/api"
	"muster/deps"
)

// unlike are so many right dependencies of a job whose id is above them all.
func unlike(count int) []api.Dep {
	var l []api.Dep
	for i := range count {
		l = append(l, api.Dep{Kind: api.DepKind(1 + i%3), Id: 1 + i})
	}
	return l
}

// P20.1: none, up to 4, and more of them.
func TestRightByCount(t *testing.T) {
	for _, count := range of(0, 1, 2, 3, 4, 5, 6, 7, 8, 16, 255, 256, 257, 65536) {
		err := api.OK
		if count > maxDeps {
			err = api.ErrLong
		}
		what := strconv.Itoa(count)
		checkRight(t, what, unlike(count), count+1, err)
		checkRight(t, what+" below a great id", unlike(count), math.MaxInt, err)
		checkRight(t, what+" without spare room", slices.Clip(unlike(count)), count+1, err)
	}
	for _, next := range of(math.MinInt, -1, 0, 1, 2, maxId, math.MaxInt) {
		checkRight(t, "no list", nil, next, api.OK)
		checkRight(t, "an empty list", of[api.Dep](), next, api.OK)
		checkRight(t, "an empty list with spare room", unlike(5)[:0], next, api.OK)
	}
}

// P20.1: each kind that there can be, in each place.
func TestRightByKind(t *testing.T) {
	for kind := range 256 {
		err := api.ErrArg
		if kind == 1 || kind == 2 || kind == 3 {
			err = api.OK
		}
		what := "kind " + strconv.Itoa(kind)
		checkRight(t, what, of(api.Dep{Kind: api.DepKind(kind), Id: 1}), 2, err)
		checkRight(t, what, of(api.Dep{Kind: api.DepKind(kind), Id: maxId}), maxId+1, err)
		for place := range maxDeps {
			l := unlike(maxDeps)
			l[place].Kind = api.DepKind(kind)
			checkRight(t, what+" in place "+strconv.Itoa(place), l, maxDeps+1, err)
		}
	}
}

// P20.1: each Id at its edges, and each next, in each place and under each kind.
func TestRightById(t *testing.T) {
	for name, x := range map[string]struct {
		id, next int
		err      api.Errno
	}{
		"below 0":                  {-1, 10, api.ErrArg},
		"far below 0":              {math.MinInt, 10, api.ErrArg},
		"2^32 below 5":             {5 - 1<<32, 10, api.ErrArg},
		"0":                        {0, 10, api.ErrArg},
		"1":                        {1, 10, api.OK},
		"two below next":           {8, 10, api.OK},
		"one below next":           {9, 10, api.OK},
		"next":                     {10, 10, api.ErrSelf},
		"one above next":           {11, 10, api.ErrSelf},
		"2^32 above 5":             {5 + 1<<32, 10, api.ErrSelf},
		"the greatest":             {math.MaxInt, 10, api.ErrSelf},
		"MaxId, next above it":     {maxId, maxId + 1, api.OK},
		"MaxId, next":              {maxId, maxId, api.ErrSelf},
		"above MaxId":              {maxId + 1, maxId + 2, api.OK},
		"1, next is 2":             {1, 2, api.OK},
		"2, next is 2":             {2, 2, api.ErrSelf},
		"0, next is 1":             {0, 1, api.ErrArg},
		"1, next is 1":             {1, 1, api.ErrSelf},
		"2, next is 1":             {2, 1, api.ErrSelf},
		"-1, next is 0":            {-1, 0, api.ErrArg},
		"0, next is 0":             {0, 0, api.ErrArg},
		"1, next is 0":             {1, 0, api.ErrSelf},
		"1, next is -1":            {1, -1, api.ErrSelf},
		"-2, next is -1":           {-2, -1, api.ErrArg},
		"1, next is the least":     {1, math.MinInt, api.ErrSelf},
		"the least twice":          {math.MinInt, math.MinInt, api.ErrArg},
		"the greatest, next too":   {math.MaxInt, math.MaxInt, api.ErrSelf},
		"one below the greatest":   {math.MaxInt - 1, math.MaxInt, api.OK},
		"the greatest, next least": {math.MaxInt, math.MinInt, api.ErrSelf},
	} {
		for kind := api.DepKind(1); kind <= 3; kind++ {
			bad := api.Dep{Kind: kind, Id: x.id}
			checkRight(t, name, of(bad), x.next, x.err)
			// The others stand at 2 to 5, so that none of them is like it.
			if x.next > 5 && x.id != 2 && x.id != 3 && x.id != 4 && x.id != 5 {
				for place := range maxDeps {
					l := slices.Insert(of(ok(3), anyway(4), fail(5)), place, bad)
					checkRight(t, name+" in place "+strconv.Itoa(place), l, x.next, x.err)
				}
			}
		}
	}
}

// P20.1: one that stands there twice, side by side and apart; the same Id under two kinds is no such one.
func TestRightTwice(t *testing.T) {
	for count := 2; count <= maxDeps; count++ {
		for first := range count {
			for second := first + 1; second < count; second++ {
				what := strconv.Itoa(first) + " and " + strconv.Itoa(second) + " of " + strconv.Itoa(count)
				l := unlike(count)
				l[second] = l[first]
				checkRight(t, what, l, 10, api.ErrTwice)
				l[second].Kind = l[first].Kind%3 + 1
				checkRight(t, what+", two kinds", l, 10, api.OK)
				l[second] = api.Dep{Kind: l[first].Kind, Id: l[first].Id + 5}
				checkRight(t, what+", two ids", l, 10, api.OK)
			}
		}
	}
	checkRight(t, "the same Id under all kinds", of(fail(3), ok(3), anyway(3)), 4, api.OK)
	checkRight(t, "the same Id under all kinds, and once more", of(fail(3), ok(3), anyway(3), fail(3)), 4, api.ErrTwice)
	checkRight(t, "two of them twice", of(ok(3), ok(1), ok(3), ok(1)), 4, api.ErrTwice)
	checkRight(t, "thrice", of(ok(3), ok(3), ok(3)), 4, api.ErrTwice)
	checkRight(t, "four times", fourTimes(ok(3)), 4, api.ErrTwice)
	checkRight(t, "the same kind of all ids", of(ok(4), ok(3), ok(2), ok(1)), 5, api.OK)
}

// fourTimes is d four times.
func fourTimes(d api.Dep) []api.Dep { return of(d, d, d, d) }

// fault is a dependency behind ok 1, with next 5, and what is wrong with it.
type fault struct {
	name string
	dep  api.Dep
	err  api.Errno
}

func faults() []fault {
	return []fault{
		{"no kind", api.Dep{Kind: 0, Id: 2}, api.ErrArg},
		{"a fourth kind", api.Dep{Kind: 4, Id: 2}, api.ErrArg},
		{"no id", ok(0), api.ErrArg},
		{"an id below 0", fail(-1), api.ErrArg},
		{"nothing at all", api.Dep{}, api.ErrArg},
		{"no kind of next", api.Dep{Kind: 0, Id: 5}, api.ErrArg},
		{"a fourth kind above next", api.Dep{Kind: 4, Id: 6}, api.ErrArg},
		{"itself", anyway(5), api.ErrSelf},
		{"one to come", ok(6), api.ErrSelf},
		{"once more", ok(1), api.ErrTwice},
	}
}

// P20.1: which error comes first, where two hold: in one dependency.
func TestRightTellsTheFirstOfOne(t *testing.T) {
	for _, next := range of(-1, 0, 1, 2, 5) {
		what := "next " + strconv.Itoa(next)
		checkRight(t, what+": no kind, and not below next", of(api.Dep{Kind: 0, Id: 5}), next, api.ErrArg)
		checkRight(t, what+": a fourth kind, and not below next", of(api.Dep{Kind: 4, Id: 5}), next, api.ErrArg)
		checkRight(t, what+": no id", of(ok(0)), next, api.ErrArg)
		checkRight(t, what+": an id below 0", of(ok(-1)), next, api.ErrArg)
	}
	checkRight(t, "no id, which is not below next", of(ok(0)), 0, api.ErrArg)
	checkRight(t, "an id below 0, which is not below next", of(ok(-1)), -1, api.ErrArg)
	checkRight(t, "no kind, twice", of(ok(1), api.Dep{Id: 2}, api.Dep{Id: 2}), 5, api.ErrArg)
	checkRight(t, "no id, twice", of(ok(0), ok(0)), 5, api.ErrArg)
	checkRight(t, "itself, twice", of(ok(5), ok(5)), 5, api.ErrSelf)
}

// P20.1: which error comes first, where two hold: in two dependencies that one's counts that stands ahead, whichever it is.
func TestRightTellsTheFirstOfTwo(t *testing.T) {
	for _, x := range faults() {
		checkRight(t, x.name, of(ok(1), x.dep), 5, x.err)
		checkRight(t, x.name+", last", of(ok(1), fail(2), fail(1), x.dep), 5, x.err)
		for _, y := range faults() {
			what := x.name + ", then " + y.name
			checkRight(t, what, of(ok(1), x.dep, y.dep), 5, x.err)
			checkRight(t, what+", apart", of(ok(1), x.dep, fail(3), y.dep), 5, x.err)
			checkRight(t, what+", behind another one", of(ok(1), fail(3), x.dep, y.dep), 5, x.err)
			if x.err != api.ErrTwice && y.err != api.ErrTwice {
				checkRight(t, what+", at first", of(x.dep, y.dep), 5, x.err)
			}
		}
	}
}

// P20.1: a list that is too long is told ahead of all else that is wrong in it, wherever it is.
func TestRightTellsLongFirst(t *testing.T) {
	for _, x := range faults() {
		for place := 1; place <= maxDeps; place++ {
			l := slices.Insert(of(ok(1), ok(2), ok(3), ok(4)), place, x.dep)
			checkRight(t, x.name+" in place "+strconv.Itoa(place), l, 5, api.ErrLong)
		}
		checkRight(t, x.name+" at first", of(x.dep, ok(1), ok(2), ok(3), ok(4)), 5, api.ErrLong)
		checkRight(t, x.name+" alone", append(fourTimes(x.dep), x.dep), 5, api.ErrLong)
	}
}

// eachList tells all lists of up to so many out of these.
func eachList(out []api.Dep, most int, tell func(l []api.Dep)) {
	var from func(l []api.Dep)
	from = func(l []api.Dep) {
		tell(l)
		if len(l) == most {
			return
		}
		for _, d := range out {
			from(append(l[:len(l):len(l)], d))
		}
	}
	from(nil)
}

// P20.1: all lists of up to 4, out of all kinds and ids near the edges, at every next near them.
func TestRightOfAll(t *testing.T) {
	var out []api.Dep
	for kind := range api.DepKind(5) {
		for id := -1; id <= 3; id++ {
			out = append(out, api.Dep{Kind: kind, Id: id})
		}
	}
	eachList(out, maxDeps, func(l []api.Dep) {
		for next := 0; next <= 4; next++ {
			if e, want := deps.Right(l, next), rightOf(l, next); e != want {
				t.Fatalf("Right(%v, %d) = %d, not %d", l, next, e, want)
			}
		}
	})
}

// P20.1: any lists, at any next.
func TestRightOfAny(t *testing.T) {
	d := dice(1)
	told := map[api.Errno]int{}
	for range 300000 {
		count := 1 + d.below(12)
		l := d.list(count)
		next := one(&d, of(count+1, count+1, 1+d.below(count), d.number()))
		e, want := deps.Right(l, next), rightOf(l, next)
		if e != want {
			t.Fatalf("Right(%v, %d) = %d, not %d", l, next, e, want)
		}
		told[e]++
	}
	for _, err := range of(api.OK, api.ErrLong, api.ErrArg, api.ErrSelf, api.ErrTwice) {
		if told[err] < 5000 {
			t.Errorf("the test is wrong: %d is told %d times", err, told[err])
		}
	}
}
