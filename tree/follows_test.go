package tree_test

import (
	"slices"
	"testing"

	"muster/api"
	"muster/tree"
)

// manyTrees are right trees: those with names, and any.
func manyTrees() [][]api.Account {
	var trees [][]api.Account
	for _, l := range rightTrees() {
		trees = append(trees, l)
	}
	trees = append(trees, forest())
	d := dice(8)
	for range 3000 {
		trees = append(trees, d.tree(maxAccounts))
	}
	return trees
}

// told is the names that a call tells of each account of l.
func told(t *testing.T, l []api.Account, do ask) map[string][]string {
	t.Helper()
	all := map[string][]string{}
	for _, a := range l {
		names, e := do(l, a.Name)
		if e != api.OK || len(names) == 0 {
			t.Fatalf("%v: %s: %v, %d", l, a.Name, names, e)
		}
		all[a.Name] = names
	}
	return all
}

// P14.4: an account is below another one just if that one is on its path.
func TestBelowJustIfOnPath(t *testing.T) {
	below, beside := 0, 0
	for _, l := range manyTrees() {
		paths, belows := told(t, l, tree.Path), told(t, l, tree.Below)
		for _, a := range l {
			for _, b := range l {
				is := slices.Contains(belows[a.Name], b.Name)
				if is != slices.Contains(paths[b.Name], a.Name) {
					t.Fatalf("%v: below %s: %v; path of %s: %v", l, a.Name, belows[a.Name], b.Name, paths[b.Name])
				}
				if is {
					below++
				} else {
					beside++
				}
			}
		}
	}
	if below < 10000 || beside < 10000 {
		t.Errorf("the test is wrong: %d, %d", below, beside)
	}
}

// P14.4: paths of two accounts have a common end if they have the same root, and nothing in common else.
func TestPathsHaveACommonEnd(t *testing.T) {
	same, unlike := 0, 0
	for _, l := range manyTrees() {
		paths := told(t, l, tree.Path)
		for _, a := range l {
			for _, b := range l {
				p, q := paths[a.Name], paths[b.Name]
				common := commonEnd(p, q)
				if (p[len(p)-1] == q[len(q)-1]) != (common > 0) {
					t.Fatalf("%v: %v, %v", l, p, q)
				}
				for _, s := range p[:len(p)-common] {
					if slices.Contains(q, s) {
						t.Fatalf("%v: %v, %v: %s is ahead of their common end", l, p, q, s)
					}
				}
				if common > 0 {
					same++
				} else {
					unlike++
				}
			}
		}
	}
	if same < 10000 || unlike < 10000 {
		t.Errorf("the test is wrong: %d, %d", same, unlike)
	}
}

// commonEnd is how many of their last names p and q have in common.
func commonEnd(p, q []string) int {
	n := 0
	for n < len(p) && n < len(q) && p[len(p)-1-n] == q[len(q)-1-n] {
		n++
	}
	return n
}

// P14.2 and P14.4: a path begins with the account, goes on to the parent of each, and ends at a root; no name stands twice in it.
func TestPathsGoUp(t *testing.T) {
	for _, l := range manyTrees() {
		for _, a := range l {
			path, e := tree.Path(l, a.Name)
			if e != api.OK || len(path) == 0 || path[0] != a.Name {
				t.Fatalf("%v: %s: %v, %d", l, a.Name, path, e)
			}
			place := len(l)
			for k, name := range path {
				i, has := findOf(l, name)
				if !has || i >= place {
					t.Fatalf("%v: %v: %s is not there, or not ahead", l, path, name)
				}
				parent := ""
				if k+1 < len(path) {
					parent = path[k+1]
				}
				if l[i].Parent != parent {
					t.Fatalf("%v: %v: behind %s comes %q", l, path, name, parent)
				}
				place = i
			}
			rest, _ := tree.Path(l, a.Parent)
			if !slices.Equal(path[1:], rest) {
				t.Fatalf("%v: %v, the parent's is %v", l, path, rest)
			}
		}
	}
}

// P14.2 and P14.4: each account is below itself; what is below roots is all, each account below one of them.
func TestRootsHaveAll(t *testing.T) {
	for _, l := range manyTrees() {
		times := map[string]int{}
		for _, a := range l {
			names, e := tree.Below(l, a.Name)
			if e != api.OK || !slices.Contains(names, a.Name) {
				t.Fatalf("%v: below %s: %v, %d", l, a.Name, names, e)
			}
			place := -1
			for _, name := range names {
				i, has := findOf(l, name)
				if !has || i <= place {
					t.Fatalf("%v: below %s: %v", l, a.Name, names)
				}
				place = i
				if a.Parent == "" {
					times[name]++
				}
			}
		}
		for _, a := range l {
			if times[a.Name] != 1 {
				t.Fatalf("%v: %s is below %d roots", l, a.Name, times[a.Name])
			}
		}
	}
}

// The chapter's examples, word by word.
func TestExamples(t *testing.T) {
	l := of(root("all", -1), child("phys", "all", 8), child("bio", "all", 0), child("lab", "phys", 3))
	if p, e := tree.Path(l, "lab"); e != api.OK || !slices.Equal(p, []string{"lab", "phys", "all"}) {
		t.Errorf("Path(lab) = %v, %d", p, e)
	}
	if b, e := tree.Below(l, "phys"); e != api.OK || !slices.Equal(b, []string{"phys", "lab"}) {
		t.Errorf("Below(phys) = %v, %d", b, e)
	}
	if p, e := tree.Path(l, "x"); e != api.ErrName || len(p) != 0 {
		t.Errorf("Path(x) = %v, %d", p, e)
	}
	if tree.Right(of(l[1], l[0], l[2], l[3])) || !tree.Right(l) {
		t.Error("phys stands ahead of all, and it is right")
	}
	m, e := tree.Limit(l, "bio", 8)
	if e != api.OK || !slices.Equal(m, of(root("all", -1), child("phys", "all", 8), child("bio", "all", 8), child("lab", "phys", 3))) {
		t.Errorf("Limit(bio, 8) = %v, %d", m, e)
	}
}
