package resv_test

import (
	"math"
	"slices"
	"strconv"
	"testing"

	"muster/api"
	"muster/resv"
)

// dropOf is Drop in plain words: its place is looked for from the last one on to the first.
func dropOf(l []api.Resv, name string) ([]api.Resv, api.Errno) {
	place := -1
	for i := len(l) - 1; i >= 0; i-- {
		if l[i].Name == name {
			place = i
		}
	}
	if place < 0 {
		return nil, api.ErrName
	}
	return append(anew(l[:place]), anew(l[place+1:])...), api.OK
}

// expireOf is Expire in plain words.
func expireOf(l []api.Resv, now int64) []api.Resv {
	return slices.DeleteFunc(anew(l), func(r api.Resv) bool { return now >= r.To })
}

// checkDrop asks Drop, of which it is told what it answers.
func checkDrop(t *testing.T, what string, l []api.Resv, name string, want []api.Resv, err api.Errno) {
	t.Helper()
	for range 2 {
		left, e := resv.Drop(l, name)
		if e != err || !same(left, want) || e != api.OK && left != nil {
			t.Errorf("%s: %v, %d, not %v, %d", what, left, e, want, err)
		}
	}
	if left, e := dropOf(l, name); e != err || !same(left, want) {
		t.Errorf("%s: the test is wrong: %v, %d", what, left, e)
	}
}

// checkExpire asks Expire, of which it is told what it answers.
func checkExpire(t *testing.T, what string, l []api.Resv, now int64, want []api.Resv) {
	t.Helper()
	for range 2 {
		if left := resv.Expire(l, now); !same(left, want) {
			t.Errorf("%s: %v, not %v", what, left, want)
		}
	}
	if left := expireOf(l, now); !same(left, want) {
		t.Errorf("%s: the test is wrong: %v", what, left)
	}
}

// P17.2: Drop of a name that stands once, twice, and not at all.
func TestDrop(t *testing.T) {
	a, b, other := held("a", 1, 0, 9, "bio"), held("b", 1, 9, 15, "lab", "bio"), held("a", 2, 3, 4, "phys")
	wrong := api.Resv{Name: "X", Nodes: math.MaxUint32, From: 9, To: -9}
	for name, x := range map[string]struct {
		l    []api.Resv
		name string
		want []api.Resv
		err  api.Errno
	}{
		"the only one":                    {of(a), "a", nil, api.OK},
		"the first":                       {of(a, b, x()), "a", of(b, x()), api.OK},
		"the one between":                 {of(a, b, x()), "b", of(a, x()), api.OK},
		"the last":                        {of(a, b, x()), "x", of(a, b), api.OK},
		"of two the first":                {of(a, other), "a", of(other), api.OK},
		"of two the first, turned about":  {of(other, a), "a", of(a), api.OK},
		"of two, apart":                   {of(b, a, x(), other), "a", of(b, x(), other), api.OK},
		"of three":                        {of(a, other, a), "a", of(other, a), api.OK},
		"of two that are the same":        {of(a, a), "a", of(a), api.OK},
		"names that fall":                 {of(x(), b, a), "b", of(x(), a), api.OK},
		"one that may not be":             {of(a, wrong, b), "X", of(a, b), api.OK},
		"beside one that may not be":      {of(wrong, a, wrong), "a", of(wrong, wrong), api.OK},
		"the empty name, where one is so": {of(a, api.Resv{}, b), "", of(a, b), api.OK},
		"a byte that is no letter":        {of(held("\xff", 0, 0, 0), a), "\xff", of(a), api.OK},
		"two that clash":                  {of(a, held("c", 1, 0, 9, "bio"), x()), "x", of(a, held("c", 1, 0, 9, "bio")), api.OK},
		"not there":                       {of(a, b), "x", nil, api.ErrName},
		"the empty name":                  {of(a, b), "", nil, api.ErrName},
		"in capitals":                     {of(a, b), "A", nil, api.ErrName},
		"a beginning of one":              {of(held("ab", 1, 0, 1, "bio")), "a", nil, api.ErrName},
		"one and more":                    {of(a, b), "a ", nil, api.ErrName},
		"an account":                      {of(a, b), "bio", nil, api.ErrName},
		"of none":                         {nil, "a", nil, api.ErrName},
		"of an empty list":                {of[api.Resv](), "a", nil, api.ErrName},
		"the empty name of none":          {nil, "", nil, api.ErrName},
		"behind the list, in spare room":  {of(a, b)[:1], "b", nil, api.ErrName},
	} {
		checkDrop(t, name, x.l, x.name, x.want, x.err)
	}
	for _, count := range of(1, 15, 16, 17, 90) {
		for place := range count {
			l := row(count, "bio")
			checkDrop(t, strconv.Itoa(place)+" of "+strconv.Itoa(count), l, numbered(place), slices.Delete(row(count, "bio"), place, place+1), api.OK)
		}
		checkDrop(t, "none of "+strconv.Itoa(count), row(count, "bio"), numbered(count), nil, api.ErrName)
	}
}

// P17.2: Expire at a To, one below it and one above it.
func TestExpire(t *testing.T) {
	checkExpire(t, "the chapter's, at 20", of(x()), 20, nil)
	checkExpire(t, "the chapter's, at 19", of(x()), 19, of(x()))
	l := of(held("a", 1, 0, 30, "bio"), held("b", 2, 0, 10, "lab", "bio"), held("c", 2, 10, 30, "bio"), held("d", 1, 30, maxTime, "bio"), held("e", 2, 30, 31, "bio"))
	for now, want := range map[int64][]api.Resv{
		math.MinInt64: l,
		-1:            l,
		0:             l,
		9:             l,
		10:            of(l[0], l[2], l[3], l[4]),
		11:            of(l[0], l[2], l[3], l[4]),
		29:            of(l[0], l[2], l[3], l[4]),
		30:            of(l[3], l[4]),
		31:            of(l[3]),
		32:            of(l[3]),
		maxTime - 1:   of(l[3]),
		maxTime:       nil,
		maxTime + 1:   nil,
		math.MaxInt64: nil,
	} {
		checkExpire(t, "at "+strconv.FormatInt(now, 10), l, now, want)
	}
	checkExpire(t, "none", nil, 0, nil)
	checkExpire(t, "an empty list", of[api.Resv](), 0, nil)
}

// P17.2: Expire of lists that are not right: nothing is asked but each one's To.
func TestExpireOfWhatIsNotRight(t *testing.T) {
	strange := of(x(), held("x", 9, 50, 15), held("X", 0, 99, 16, "", ""), x(), api.Resv{}, held("", 1, -9, -5, "x"), held("a", 2, 0, math.MaxInt64, "bio"), held("a", 2, 0, math.MinInt64, "bio"))
	for now, want := range map[int64][]api.Resv{
		math.MinInt64:     slices.Delete(anew(strange), 7, 8),
		-6:                slices.Delete(anew(strange), 7, 8),
		-5:                append(anew(strange[:5]), strange[6]),
		-1:                append(anew(strange[:5]), strange[6]),
		0:                 append(anew(strange[:4]), strange[6]),
		15:                of(strange[0], strange[2], strange[3], strange[6]),
		16:                of(strange[0], strange[3], strange[6]),
		20:                of(strange[6]),
		math.MaxInt64 - 1: of(strange[6]),
		math.MaxInt64:     nil,
	} {
		checkExpire(t, "at "+strconv.FormatInt(now, 10), strange, now, want)
	}
	for name, l := range wrongLists() {
		for _, now := range of[int64](-1, 0, 5, 9, 15, 19, 20, maxTime) {
			checkExpire(t, name, l, now, expireOf(l, now))
		}
	}
	checkExpire(t, "90 of them", row(90, "bio"), 450, row(90, "bio")[45:])
}

// P17.2: Drop and Expire of any lists, right or not.
func TestDropAndExpireOfAny(t *testing.T) {
	d := dice(3)
	dropped, expired, twice := 0, 0, 0
	for range 20000 {
		c := d.config()
		l := d.strange(c)
		name := one(&d, of(one(&d, l).Name, d.name(), ""))
		want, err := dropOf(l, name)
		if left, e := resv.Drop(l, name); e != err || !same(left, want) {
			t.Fatalf("Drop(%v, %q) = %v, %d, not %v, %d", l, name, left, e, want, err)
		}
		if err == api.OK {
			dropped++
		}
		if _, e := dropOf(want, name); e == api.OK {
			twice++
		}
		now := one(&d, l).To + int64(d.below(3)) - 1
		if left := resv.Expire(l, now); !same(left, expireOf(l, now)) {
			t.Fatalf("Expire(%v, %d) = %v", l, now, left)
		} else if len(left) > 0 && len(left) < len(l) {
			expired++
		}
	}
	if dropped < 5000 || dropped > 18000 || expired < 5000 || twice < 1000 {
		t.Errorf("the test is wrong: %d are dropped, %d expired, %d stand twice", dropped, expired, twice)
	}
}
