package tree_test

import (
	"math"
	"slices"
	"testing"

	"muster/api"
	"muster/tree"
)

// limitOf is Limit in plain words.
func limitOf(l []api.Account, name string, n int) ([]api.Account, api.Errno) {
	i, has := findOf(l, name)
	switch {
	case !isRight(l) || n <= -2 || n >= mostLimit+1:
		return nil, api.ErrArg
	case !has:
		return nil, api.ErrName
	}
	return put(l, i, api.Account{Name: name, Parent: l[i].Parent, Limit: n}), api.OK
}

// P14.3: Limit, with each edge that the document names.
func TestLimit(t *testing.T) {
	full := line(maxAccounts)
	last := maxAccounts - 1
	for name, c := range map[string]struct {
		l    []api.Account
		name string
		n    int
		want []api.Account
		err  api.Errno
	}{
		"a root":                    {chapters(), "all", 5, put(chapters(), 0, root("all", 5)), api.OK},
		"one between":               {chapters(), "bio", 8, put(chapters(), 2, child("bio", "all", 8)), api.OK},
		"the last":                  {chapters(), "lab", 7, put(chapters(), 3, child("lab", "phys", 7)), api.OK},
		"the one that it has":       {chapters(), "phys", 8, chapters(), api.OK},
		"alone":                     {of(root("a", 0)), "a", 1, of(root("a", 1)), api.OK},
		"-1":                        {chapters(), "lab", -1, put(chapters(), 3, child("lab", "phys", -1)), api.OK},
		"0":                         {chapters(), "lab", 0, put(chapters(), 3, child("lab", "phys", 0)), api.OK},
		"2^30 - 1":                  {chapters(), "lab", mostLimit - 1, put(chapters(), 3, child("lab", "phys", mostLimit-1)), api.OK},
		"2^30":                      {chapters(), "lab", mostLimit, put(chapters(), 3, child("lab", "phys", mostLimit)), api.OK},
		"from 2^30 to -1":           {of(root("a", mostLimit)), "a", -1, of(root("a", -1)), api.OK},
		"of MaxAccounts, the first": {full, numbered(0), 9, put(full, 0, root(numbered(0), 9)), api.OK},
		"of MaxAccounts, the last":  {full, numbered(last), 9, put(full, last, child(numbered(last), numbered(last-1), 9)), api.OK},
		"-2":                        {chapters(), "lab", -2, nil, api.ErrArg},
		"2^30 + 1":                  {chapters(), "lab", mostLimit + 1, nil, api.ErrArg},
		"the least number":          {chapters(), "lab", math.MinInt, nil, api.ErrArg},
		"the greatest number":       {chapters(), "lab", math.MaxInt, nil, api.ErrArg},
		"2^32 + 8":                  {chapters(), "lab", 1<<32 + 8, nil, api.ErrArg},
		"no one":                    {chapters(), "x", 8, nil, api.ErrName},
		"no one, -1":                {chapters(), "x", -1, nil, api.ErrName},
		"no one, 2^30":              {chapters(), "x", mostLimit, nil, api.ErrName},
		"the empty name":            {chapters(), "", 8, nil, api.ErrName},
		"a text that is no name":    {chapters(), "Lab", 8, nil, api.ErrName},
		"a name's beginning":        {chapters(), "la", 8, nil, api.ErrName},
		"no list":                   {nil, "a", 8, nil, api.ErrArg},
		"the empty list":            {[]api.Account{}, "a", 8, nil, api.ErrArg},
		"one more than MaxAccounts": {roots(maxAccounts + 1), numbered(0), 8, nil, api.ErrArg},
		"a name that stands twice":  {of(root("a", 0), root("a", 0)), "a", 8, nil, api.ErrArg},
		"its parent is not there":   {of(child("a", "b", 0)), "a", 8, nil, api.ErrArg},
		"its parent is later":       {of(child("a", "b", 0), root("b", 0)), "b", 8, nil, api.ErrArg},
		"its own parent":            {of(child("a", "a", 0)), "a", 8, nil, api.ErrArg},
		"its Limit was -2":          {of(root("a", -2)), "a", 8, nil, api.ErrArg},
		"its Limit was 2^30 + 1":    {of(root("a", mostLimit+1)), "a", 8, nil, api.ErrArg},
		"its name is none":          {of(root("A", 0)), "A", 8, nil, api.ErrArg},
		"the empty name is there":   {make([]api.Account, 1), "", 8, nil, api.ErrArg},
		"another one is wrong":      {of(root("a", 0), root("b", -2)), "a", 8, nil, api.ErrArg},
		"ErrArg ahead of ErrName":   {chapters(), "x", -2, nil, api.ErrArg},
		"the same, 2^30 + 1":        {chapters(), "x", mostLimit + 1, nil, api.ErrArg},
		"the same, a wrong tree":    {of(root("a", -2)), "x", 8, nil, api.ErrArg},
		"the same, both":            {of(root("a", -2)), "x", -2, nil, api.ErrArg},
		"the same, the empty name":  {chapters(), "", -2, nil, api.ErrArg},
		"the same, no list":         {nil, "", 8, nil, api.ErrArg},
	} {
		for range 2 {
			if l, e := tree.Limit(c.l, c.name, c.n); !slices.Equal(l, c.want) || e != c.err {
				t.Errorf("%s: %v, %d, not %v, %d", name, l, e, c.want, c.err)
			}
		}
	}
}

// checkLimit asks Limit, and tells the error.
func checkLimit(t *testing.T, l []api.Account, name string, n int) api.Errno {
	t.Helper()
	want, err := limitOf(l, name, n)
	m, e := tree.Limit(l, name, n)
	if !slices.Equal(m, want) || e != err {
		t.Fatalf("Limit(%v, %q, %d) = %v, %d, not %v, %d", l, name, n, m, e, want, err)
	}
	if e == api.OK && !tree.Right(m) {
		t.Fatalf("Limit(%v, %q, %d) = %v, which is not right", l, name, n, m)
	}
	return err
}

// P14.3: each list that is right or not, all names, all numbers.
func TestLimitOfAllTrees(t *testing.T) {
	for _, l := range allTrees() {
		for _, a := range l[:min(len(l), maxAccounts+1)] {
			for _, n := range manyLimits {
				checkLimit(t, l, a.Name, n)
			}
		}
		for _, s := range askedNames(l[:min(len(l), maxAccounts+1)]) {
			checkLimit(t, l, s, -2)
			checkLimit(t, l, s, 8)
		}
	}
}

// P14.3: any lists, names and numbers.
func TestLimitOfAny(t *testing.T) {
	d := dice(6)
	told := map[api.Errno]int{}
	for range 20000 {
		l := d.tree(maxAccounts)
		if d.below(4) == 0 {
			l = d.wild()
		}
		name, n := l[d.below(len(l))].Name, d.limit()
		if d.below(4) == 0 {
			name = d.name()
		}
		if d.below(4) == 0 {
			n = manyLimits[d.below(len(manyLimits))]
		}
		told[checkLimit(t, l, name, n)]++
	}
	for _, e := range []api.Errno{api.OK, api.ErrArg, api.ErrName} {
		if told[e] < 2000 {
			t.Errorf("the test is wrong: %d is told %d times", e, told[e])
		}
	}
}

// P14.3: of two accounts the order does not matter; of one, the later limit holds; paths stay.
func TestLimitAgain(t *testing.T) {
	d := dice(7)
	limit := func(l []api.Account, name string, n int) []api.Account {
		t.Helper()
		m, e := tree.Limit(l, name, n)
		if e != api.OK {
			t.Fatalf("Limit(%v, %q, %d): %d", l, name, n, e)
		}
		return m
	}
	for range 5000 {
		l := d.tree(maxAccounts)
		i, j := d.below(len(l)), d.below(len(l))
		a, b, m, n := l[i].Name, l[j].Name, d.limit(), d.limit()
		if i != j && !slices.Equal(limit(limit(l, a, m), b, n), limit(limit(l, b, n), a, m)) {
			t.Fatalf("%v: %s and %s, and the other way about", l, a, b)
		}
		if !slices.Equal(limit(limit(l, a, m), a, n), limit(l, a, n)) || !slices.Equal(limit(limit(l, a, m), a, l[i].Limit), l) {
			t.Fatalf("%v: %s twice", l, a)
		}
		path, _ := tree.Path(l, b)
		if other, e := tree.Path(limit(l, a, m), b); e != api.OK || !slices.Equal(path, other) {
			t.Fatalf("%v: the path of %s: %v, %v", l, b, path, other)
		}
	}
}
