package tree_test

import (
	"slices"
	"strings"
	"testing"

	"muster/api"
	"muster/tree"
)

// pathOf is Path in plain words.
func pathOf(l []api.Account, name string) ([]string, api.Errno) {
	i, has := findOf(l, name)
	switch {
	case !isRight(l):
		return nil, api.ErrArg
	case !has:
		return nil, api.ErrName
	case l[i].Parent == "":
		return []string{name}, api.OK
	}
	rest, err := pathOf(l, l[i].Parent)
	return append([]string{name}, rest...), err
}

// belowOf is Below in plain words: whoever has a parent below it is below it, too.
func belowOf(l []api.Account, name string) ([]string, api.Errno) {
	if !isRight(l) {
		return nil, api.ErrArg
	}
	if _, has := findOf(l, name); !has {
		return nil, api.ErrName
	}
	below := map[string]bool{name: true}
	for range l {
		for _, a := range l {
			below[a.Name] = below[a.Name] || below[a.Parent]
		}
	}
	var names []string
	for _, a := range l {
		if below[a.Name] {
			names = append(names, a.Name)
		}
	}
	return names, api.OK
}

// ask is Path or Below.
type ask = func([]api.Account, string) ([]string, api.Errno)

// askCase is a tree, a name, and the names that are told, with blanks between.
type askCase struct {
	l    []api.Account
	name string
	want string
	err  api.Errno
}

func (c askCase) check(t *testing.T, name string, do ask) {
	t.Helper()
	for range 2 {
		if names, e := do(c.l, c.name); !slices.Equal(names, strings.Fields(c.want)) || e != c.err {
			t.Errorf("%s: %v, %d, not %s, %d", name, names, e, c.want, c.err)
		}
	}
}

// forest is two trees, their accounts among each other.
func forest() []api.Account {
	return of(root("r", 0), root("s", 0), child("b", "s", 0), child("a", "r", 0), child("d", "b", 0), child("c", "r", 0), child("e", "a", 0), child("f", "d", 0), child("g", "a", 0))
}

// upTo is the names of accounts 0 to n of line, star and roots.
func upTo(n int) []string {
	var names []string
	for i := range n + 1 {
		names = append(names, numbered(i))
	}
	return names
}

// turned is the words of l from the last one on.
func turned(l []string) string {
	l = slices.Clone(l)
	slices.Reverse(l)
	return strings.Join(l, " ")
}

// P14.2: Path, with each edge that the document names.
func TestPath(t *testing.T) {
	last := maxAccounts - 1
	for name, c := range map[string]askCase{
		"a root":                      {chapters(), "all", "all", api.OK},
		"below a root":                {chapters(), "phys", "phys all", api.OK},
		"beside it":                   {chapters(), "bio", "bio all", api.OK},
		"the lowest":                  {chapters(), "lab", "lab phys all", api.OK},
		"alone":                       {of(root("a", 0)), "a", "a", api.OK},
		"alone, the longest name":     {of(root("abcdefghijklmnop", 0)), "abcdefghijklmnop", "abcdefghijklmnop", api.OK},
		"two trees, the first":        {forest(), "e", "e a r", api.OK},
		"two trees, the second":       {forest(), "f", "f d b s", api.OK},
		"two trees, a root":           {forest(), "s", "s", api.OK},
		"two trees, the last":         {forest(), "g", "g a r", api.OK},
		"roots":                       {roots(maxAccounts), numbered(last), numbered(last), api.OK},
		"one path of all":             {line(maxAccounts), numbered(last), turned(upTo(last)), api.OK},
		"one path of all, the middle": {line(maxAccounts), numbered(7), turned(upTo(7)), api.OK},
		"one path of all, the root":   {line(maxAccounts), numbered(0), numbered(0), api.OK},
		"many below one, the last":    {star(maxAccounts), numbered(last), turned([]string{numbered(0), numbered(last)}), api.OK},
		"many below one, the root":    {star(maxAccounts), numbered(0), numbered(0), api.OK},
		"names that begin alike":      {of(root("a", 0), child("aa", "a", 0), child("aaa", "aa", 0)), "aaa", "aaa aa a", api.OK},
		"no one":                      {chapters(), "x", "", api.ErrName},
		"the empty name":              {chapters(), "", "", api.ErrName},
		"the empty name, roots":       {roots(3), "", "", api.ErrName},
		"a text that is no name":      {chapters(), "All", "", api.ErrName},
		"a name's beginning":          {chapters(), "al", "", api.ErrName},
		"a name that is too long":     {of(root("abcdefghijklmnop", 0)), "abcdefghijklmnopq", "", api.ErrName},
		"no list":                     {nil, "a", "", api.ErrArg},
		"the empty list":              {[]api.Account{}, "a", "", api.ErrArg},
		"one more than MaxAccounts":   {line(maxAccounts + 1), numbered(0), "", api.ErrArg},
		"a name that stands twice":    {of(root("a", 0), root("b", 0), root("a", 0)), "a", "", api.ErrArg},
		"another stands twice":        {of(root("a", 0), root("b", 0), root("b", 0)), "a", "", api.ErrArg},
		"its parent is not there":     {of(child("a", "b", 0)), "a", "", api.ErrArg},
		"its parent is later":         {of(child("a", "b", 0), root("b", 0)), "a", "", api.ErrArg},
		"its own parent":              {of(child("a", "a", 0)), "a", "", api.ErrArg},
		"a ring":                      {of(child("a", "b", 0), child("b", "a", 0)), "a", "", api.ErrArg},
		"a ring beside it":            {of(root("r", 0), child("a", "b", 0), child("b", "a", 0)), "r", "", api.ErrArg},
		"another's Limit is -2":       {of(root("a", 0), root("b", -2)), "a", "", api.ErrArg},
		"another's name is none":      {of(root("a", 0), root("B", 0)), "a", "", api.ErrArg},
		"ErrArg ahead of ErrName":     {of(root("a", 0), root("b", -2)), "x", "", api.ErrArg},
		"the same, the empty name":    {make([]api.Account, 1), "", "", api.ErrArg},
		"the same, no list":           {nil, "", "", api.ErrArg},
		"the same, too many":          {roots(maxAccounts + 1), "x", "", api.ErrArg},
	} {
		c.check(t, name, tree.Path)
	}
}

// P14.2: Below, with each edge that the document names.
func TestBelow(t *testing.T) {
	last := maxAccounts - 1
	all := strings.Join(upTo(last), " ")
	for name, c := range map[string]askCase{
		"a root":                       {chapters(), "all", "all phys bio lab", api.OK},
		"some below it":                {chapters(), "phys", "phys lab", api.OK},
		"none below it":                {chapters(), "bio", "bio", api.OK},
		"the last":                     {chapters(), "lab", "lab", api.OK},
		"alone":                        {of(root("a", 0)), "a", "a", api.OK},
		"two trees, the first":         {forest(), "r", "r a c e g", api.OK},
		"two trees, the second":        {forest(), "s", "s b d f", api.OK},
		"two trees, among others":      {forest(), "a", "a e g", api.OK},
		"two trees, down to the last":  {forest(), "b", "b d f", api.OK},
		"the list's order, not theirs": {of(root("z", 0), child("c", "z", 0), child("b", "z", 0), child("a", "c", 0)), "z", "z c b a", api.OK},
		"roots":                        {roots(maxAccounts), numbered(0), numbered(0), api.OK},
		"roots, the last":              {roots(maxAccounts), numbered(last), numbered(last), api.OK},
		"one path of all":              {line(maxAccounts), numbered(0), all, api.OK},
		"one path of all, the second":  {line(maxAccounts), numbered(1), strings.TrimPrefix(all, numbered(0)+" "), api.OK},
		"one path of all, the last":    {line(maxAccounts), numbered(last), numbered(last), api.OK},
		"many below one":               {star(maxAccounts), numbered(0), all, api.OK},
		"many below one, another":      {star(maxAccounts), numbered(1), numbered(1), api.OK},
		"names that begin alike":       {of(root("a", 0), root("aa", 0), child("aaa", "aa", 0)), "a", "a", api.OK},
		"no one":                       {chapters(), "x", "", api.ErrName},
		"the empty name":               {chapters(), "", "", api.ErrName},
		"the empty name, roots":        {roots(3), "", "", api.ErrName},
		"a text that is no name":       {chapters(), "All", "", api.ErrName},
		"a name's beginning":           {chapters(), "al", "", api.ErrName},
		"a name that is too long":      {of(root("abcdefghijklmnop", 0)), "abcdefghijklmnopq", "", api.ErrName},
		"no list":                      {nil, "a", "", api.ErrArg},
		"the empty list":               {[]api.Account{}, "a", "", api.ErrArg},
		"one more than MaxAccounts":    {star(maxAccounts + 1), numbered(0), "", api.ErrArg},
		"a name that stands twice":     {of(root("a", 0), root("b", 0), root("a", 0)), "a", "", api.ErrArg},
		"a parent that is not there":   {of(root("a", 0), child("b", "c", 0)), "a", "", api.ErrArg},
		"the same, asked for it":       {of(root("a", 0), child("b", "c", 0)), "c", "", api.ErrArg},
		"its parent is later":          {of(child("a", "b", 0), root("b", 0)), "b", "", api.ErrArg},
		"its own parent":               {of(child("a", "a", 0)), "a", "", api.ErrArg},
		"a ring":                       {of(child("a", "b", 0), child("b", "a", 0)), "a", "", api.ErrArg},
		"another's Limit is 2^30 + 1":  {of(root("a", 0), root("b", mostLimit+1)), "a", "", api.ErrArg},
		"another's name is none":       {of(root("a", 0), root("0", 0)), "a", "", api.ErrArg},
		"ErrArg ahead of ErrName":      {of(root("a", 0), root("b", -2)), "x", "", api.ErrArg},
		"the same, the empty name":     {make([]api.Account, 1), "", "", api.ErrArg},
		"the same, no list":            {nil, "", "", api.ErrArg},
		"the same, too many":           {roots(maxAccounts + 1), "x", "", api.ErrArg},
	} {
		c.check(t, name, tree.Below)
	}
}

// checkAsked asks Path and Below of l for that name, and tells the error.
func checkAsked(t *testing.T, l []api.Account, name string) api.Errno {
	t.Helper()
	path, err := pathOf(l, name)
	if names, e := tree.Path(l, name); !slices.Equal(names, path) || e != err {
		t.Fatalf("Path(%v, %q) = %v, %d, not %v, %d", l, name, names, e, path, err)
	}
	below, err := belowOf(l, name)
	if names, e := tree.Below(l, name); !slices.Equal(names, below) || e != err {
		t.Fatalf("Below(%v, %q) = %v, %d, not %v, %d", l, name, names, e, below, err)
	}
	return err
}

// P14.2: both, of each list that is right or not, and of all names.
func TestAskedOfAllTrees(t *testing.T) {
	for _, l := range allTrees() {
		for _, s := range askedNames(l) {
			checkAsked(t, l, s)
		}
	}
}

// P14.2: both, of any lists.
func TestAskedOfAny(t *testing.T) {
	d := dice(4)
	told := map[api.Errno]int{}
	for range 10000 {
		l := d.tree(maxAccounts)
		if d.below(4) == 0 {
			l = d.wild()
		}
		told[checkAsked(t, l, d.name())]++
		a := l[d.below(len(l))]
		told[checkAsked(t, l, a.Name)]++
		told[checkAsked(t, l, a.Parent)]++
	}
	for _, e := range []api.Errno{api.OK, api.ErrArg, api.ErrName} {
		if told[e] < 2000 {
			t.Errorf("the test is wrong: %d is told %d times", e, told[e])
		}
	}
}

// P14.2: limits change nothing of paths and of what is below, as long as they may be.
func TestAskedWhateverTheLimits(t *testing.T) {
	d := dice(5)
	for range 2000 {
		l := d.tree(maxAccounts)
		m := slices.Clone(l)
		for i := range m {
			m[i].Limit = d.limit()
		}
		for _, a := range l {
			path, _ := tree.Path(l, a.Name)
			other, _ := tree.Path(m, a.Name)
			below, _ := tree.Below(l, a.Name)
			another, _ := tree.Below(m, a.Name)
			if !slices.Equal(path, other) || !slices.Equal(below, another) {
				t.Fatalf("%v, %v: %s: %v, %v; %v, %v", l, m, a.Name, path, other, below, another)
			}
		}
	}
}
