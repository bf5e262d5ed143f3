package steps_test

import (
	"slices"
	"strconv"
	"testing"

	"muster/api"
	"muster/steps"
)

// text is a number in digits.
func text(n int64) string { return strconv.FormatInt(n, 10) }

// P11.5: what Flat and Add tell is right, however many are added one behind the other; the values are what all of them make.
func TestWhatIsToldIsRight(t *testing.T) {
	const ticks = 40
	d := dice(6)
	for range 300 {
		begin := d.below(6)
		s, e := steps.Flat(begin)
		if e != api.OK || !steps.Right(s) || !isRight(s) {
			t.Fatalf("Flat(%d) = %v, %d", begin, s, e)
		}
		var all [ticks]int
		for i := range all {
			all[i] = begin
		}
		for range 60 {
			from := d.below(ticks - 1)
			to := from + 1 + d.below(ticks-1-from)
			n := d.below(7) - 3
			after := all
			for i := from; i < to; i++ {
				after[i] += n
			}
			want := api.OK
			if slices.Min(after[:]) < 0 {
				want = api.ErrOver
			}
			sum, e := steps.Add(s, int64(from), int64(to), n)
			if e != want {
				t.Fatalf("Add(%v, %d, %d, %d): %d", s, from, to, n, e)
			}
			if e != api.OK {
				continue
			}
			if !steps.Right(sum) || !isRight(sum) {
				t.Fatalf("Add(%v, %d, %d, %d) = %v", s, from, to, n, sum)
			}
			s, all = sum, after
			for i, v := range all {
				if got, e := steps.At(s, int64(i)); got != v || e != api.OK {
					t.Fatalf("%v is %d, %d at %d, not %d", s, got, e, i, v)
				}
			}
		}
	}
}

// P11.5: a step function may grow to MaxCuts cuts and no further, is right all along, and shrinks to a flat one again.
func TestUpToMaxCutsAndBack(t *testing.T) {
	s, _ := steps.Flat(7)
	window := func(i int) (int64, int64) { return int64(i)*4 + 2, int64(i)*4 + 4 }
	for i := range maxCuts/2 - 1 {
		from, to := window(i)
		sum, e := steps.Add(s, from, to, -7)
		if e != api.OK || len(sum) != 2*i+3 || i%100 == 0 && !isRight(sum) {
			t.Fatalf("%d: %d cuts, %d", i, len(sum), e)
		}
		s = sum
	}
	from, to := window(maxCuts)
	if l, e := steps.Add(s, from, to, 1); len(l) != 0 || e != api.ErrFull {
		t.Fatalf("one below MaxCuts: %d cuts, %d", len(l), e)
	}
	full, e := steps.Add(s, 0, 1, 5)
	if e != api.OK || len(full) != maxCuts || !steps.Right(full) || !isRight(full) {
		t.Fatalf("MaxCuts: %d cuts, %d", len(full), e)
	}
	if l, e := steps.Add(full, from, last, 1); len(l) != 0 || e != api.ErrFull {
		t.Fatalf("MaxCuts: %d cuts, %d", len(l), e)
	}
	s, _ = steps.Add(full, 0, 1, -5)
	for i := range maxCuts/2 - 1 {
		from, to := window(i)
		sum, e := steps.Add(s, from, to, 7)
		if e != api.OK || len(sum) != len(s)-2 {
			t.Fatalf("back %d: %d cuts, %d", i, len(sum), e)
		}
		s = sum
	}
	if !slices.Equal(s, fn(0, 7)) {
		t.Errorf("back: %v", s)
	}
}

// P11.5: adding n and then -n over the same time changes nothing.
func TestThereAndBack(t *testing.T) {
	check := func(s []api.Cut, from, to int64, n int) bool {
		there, e := steps.Add(s, from, to, n)
		if e != api.OK {
			return false
		}
		if back, e := steps.Add(there, from, to, -n); e != api.OK || !slices.Equal(back, s) {
			t.Fatalf("Add(%v, %d, %d, %d) = %v, and back: %v, %d", s, from, to, n, there, back, e)
		}
		return true
	}
	d := dice(7)
	there := 0
	for range 40000 {
		s := d.function(20)
		from, to := d.time(s, last), d.time(s, last)
		n := d.below(9) - 4
		if d.below(2) == 0 {
			n = valueAt(s, max(0, from-1)) - valueAt(s, from)
		}
		if check(s, from, to, n) {
			there++
		}
	}
	if there < 5000 {
		t.Errorf("the test is wrong: %d Adds are told", there)
	}
	for name, s := range rightFunctions() {
		for _, n := range []int{0, 1, -1, most, -most} {
			check(s, 0, last, n)
			check(s, 0, 10, n)
			check(s, 10, 20, n)
		}
		if !check(s, 10, 20, 0) {
			t.Errorf("%s: nothing can't be added", name)
		}
	}
	full := zigzag(maxCuts, 1, 2)
	if !check(full, 10, 20, -1) || !check(full, 5, 10, 1) || !check(full, 30, 40, most-2) {
		t.Error("of MaxCuts: can't be added")
	}
}

// P11.5: the first fit is from, or the At of a cut; it holds for its whole length, and at no time ahead of it.
func TestFirstFits(t *testing.T) {
	d := dice(8)
	fits := 0
	for range 40000 {
		s := d.function(12)
		from := d.time(s, maxTime)
		length := 1 + d.time(s, maxTime-1)
		n := s[d.below(len(s))].Free
		at, e := steps.Fit(s, from, length, n)
		if e != api.OK {
			continue
		}
		fits++
		isCut := slices.ContainsFunc(s, func(c api.Cut) bool { return c.At == at })
		if at != from && !isCut || at < from || at > maxTime {
			t.Fatalf("Fit(%v, %d, %d, %d) = %d", s, from, length, n, at)
		}
		if v, e := steps.Least(s, at, at+length); v < n || e != api.OK {
			t.Fatalf("Fit(%v, %d, %d, %d) = %d: there it is %d, %d", s, from, length, n, at, v, e)
		}
		for range 4 {
			if at == from {
				break
			}
			before := max(from, at-1-int64(d.below(4)))
			if d.below(2) == 0 {
				before = from + int64(d.next())%(at-from)
			}
			if v, e := steps.Least(s, before, before+length); v >= n || e != api.OK {
				t.Fatalf("Fit(%v, %d, %d, %d) = %d: at %d it fits, too", s, from, length, n, at, before)
			}
		}
		if at > from {
			if again, e := steps.Fit(s, at, length, n); again != at || e != api.OK {
				t.Fatalf("Fit(%v, %d, %d, %d) = %d, from there %d, %d", s, from, length, n, at, again, e)
			}
		}
	}
	if fits < 5000 {
		t.Errorf("the test is wrong: %d fits are told", fits)
	}
}

// P11.2 to P11.5: the calls agree with one another: what fits can be taken off; Least of one tick is At.
func TestCallsAgree(t *testing.T) {
	d := dice(9)
	for range 20000 {
		s := d.function(15)
		at := d.time(s, last-1)
		v, e := steps.At(s, at)
		least, f := steps.Least(s, at, at+1)
		if v != least || e != api.OK || f != api.OK {
			t.Fatalf("%v: At(%d) is %d, %d, Least %d, %d", s, at, v, e, least, f)
		}
		from := d.time(s, maxTime)
		length := 1 + d.time(s, maxTime-1)
		n := d.value()
		fit, e := steps.Fit(s, from, length, n)
		if e != api.OK {
			continue
		}
		taken, e := steps.Add(s, fit, fit+length, -n)
		if e != api.OK {
			t.Fatalf("Fit(%v, %d, %d, %d) = %d can't be taken: %d", s, from, length, n, fit, e)
		}
		before, _ := steps.Least(s, fit, fit+length)
		after, e := steps.Least(taken, fit, fit+length)
		if after != before-n || e != api.OK {
			t.Fatalf("%v: %d are left of %d behind %d", s, after, before, n)
		}
	}
}

// The chapter's examples, word by word.
func TestExamples(t *testing.T) {
	flat, e := steps.Flat(4)
	if e != api.OK || !slices.Equal(flat, fn(0, 4)) {
		t.Errorf("1: %v, %d", flat, e)
	}
	s, e := steps.Add(flat, 10, 20, -3)
	if e != api.OK || !slices.Equal(s, fn(0, 4, 10, 1, 20, 4)) {
		t.Errorf("1: %v, %d", s, e)
	}
	four, e := steps.Least(s, 0, 10)
	one, f := steps.Least(s, 0, 11)
	if four != 4 || e != api.OK || one != 1 || f != api.OK {
		t.Errorf("1: %d, %d, %d, %d", four, e, one, f)
	}
	back, e := steps.Add(s, 10, 20, 3)
	if e != api.OK || !slices.Equal(back, fn(0, 4)) {
		t.Errorf("1: %v, %d", back, e)
	}
	over, e := steps.Add(s, 15, 16, -2)
	if e != api.ErrOver || len(over) != 0 {
		t.Errorf("1: %v, %d", over, e)
	}
	for _, c := range []fitCase{
		{s, 5, 10, 2, 20, api.OK},
		{s, 5, 5, 2, 5, api.OK},
		{s, 5, 10, 1, 5, api.OK},
		{s, 5, 10, 5, 0, api.ErrOver},
		{s, 5, 0, 2, 0, api.ErrArg},
	} {
		if at, e := steps.Fit(c.s, c.from, c.length, c.n); at != c.want || e != c.err {
			t.Errorf("2: %v: %d, %d", c, at, e)
		}
	}
}
