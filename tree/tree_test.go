package tree_test

import (
	"math"
	"slices"
	"strconv"
	"strings"
	"testing"

	"muster/api"
	"muster/tree"
)

// The tests' own numbers, so that they don't lean on what they test.
const (
	maxName     = 16
	maxAccounts = 16
	mostLimit   = 1073741824 // 2^30
	letters     = "abcdefghijklmnopqrstuvwxyz"
	behind      = letters + "0123456789-_"
)

// dice are numbers that look like chance and are the same in each run.
type dice uint64

func (d *dice) next() uint64 {
	*d = *d*6364136223846793005 + 1442695040888963407
	return uint64(*d >> 32)
}

func (d *dice) below(n int) int { return int(d.next() % uint64(n)) }

// name is any name.
func (d *dice) name() string {
	b := []byte{letters[d.below(len(letters))]}
	for range d.below(maxName) {
		b = append(b, behind[d.below(len(behind))])
	}
	return string(b)
}

// limit is any number that may be a limit, often one at the edges.
func (d *dice) limit() int {
	switch d.below(4) {
	case 0:
		return -1
	case 1:
		return mostLimit - d.below(2)
	case 2:
		return d.below(3)
	}
	return d.below(mostLimit + 1)
}

// tree is a right tree of 1 to most accounts: in one path, below one, with many roots, or anyhow.
func (d *dice) tree(most int) []api.Account {
	var l []api.Account
	shape := d.below(5)
	for count := 1 + d.below(most); len(l) < count; {
		a := api.Account{Name: d.name(), Limit: d.limit()}
		if slices.ContainsFunc(l, func(b api.Account) bool { return b.Name == a.Name }) {
			continue
		}
		if len(l) > 0 {
			switch shape {
			case 0:
				a.Parent = l[len(l)-1].Name
			case 1:
				a.Parent = l[0].Name
			case 2:
				if d.below(3) == 0 {
					a.Parent = l[d.below(len(l))].Name
				}
			default:
				if d.below(8) > 0 {
					a.Parent = l[d.below(len(l))].Name
				}
			}
		}
		l = append(l, a)
	}
	return l
}

// wild is a tree with something changed in one or two places, right or not.
func (d *dice) wild() []api.Account {
	l := d.tree(maxAccounts)
	for range 1 + d.below(2) {
		i, j := d.below(len(l)), d.below(len(l))
		switch d.below(8) {
		case 0:
			l[i].Name = l[j].Name
		case 1:
			l[i].Parent = l[j].Name
		case 2:
			l[i].Limit = manyLimits[d.below(len(manyLimits))]
		case 3:
			l[i].Parent = d.name()
		case 4:
			l[i], l[j] = l[j], l[i]
		case 5:
			l[i].Name = wrongNames[d.below(len(wrongNames))]
		case 6:
			l[i].Parent = ""
		case 7:
			l = append(l, l[i])
			l[len(l)-1].Name = d.name()
		}
	}
	return l
}

// manyLimits are numbers that may be limits, those just beside them, and others.
var manyLimits = []int{math.MinInt, -1 << 32, -mostLimit, -3, -2, -1, 0, 1, 2, 8, 255, 256, mostLimit - 1, mostLimit, mostLimit + 1, mostLimit + 2, 1 << 31, 1<<32 - 1, 1 << 32, 1<<32 + 8, math.MaxInt}

// root is an account without a parent.
func root(name string, limit int) api.Account { return api.Account{Name: name, Limit: limit} }

// child is an account with a parent.
func child(name, parent string, limit int) api.Account {
	return api.Account{Name: name, Parent: parent, Limit: limit}
}

// of is the list of these accounts.
func of(l ...api.Account) []api.Account { return l }

// chapters is the tree of the chapter's examples.
func chapters() []api.Account {
	return of(root("all", -1), child("phys", "all", 8), child("bio", "all", 0), child("lab", "phys", 3))
}

// numbered is the name of the i-th account of line, star and roots.
func numbered(i int) string { return "a" + strconv.Itoa(i) }

// line is n accounts in one path.
func line(n int) []api.Account {
	l := star(n)
	for i := 1; i < n; i++ {
		l[i].Parent = numbered(i - 1)
	}
	return l
}

// star is n accounts, all others just below the first.
func star(n int) []api.Account {
	l := roots(n)
	for i := 1; i < n; i++ {
		l[i].Parent = numbered(0)
	}
	return l
}

// roots is n accounts without a parent.
func roots(n int) []api.Account {
	var l []api.Account
	for i := range n {
		l = append(l, root(numbered(i), i-1))
	}
	return l
}

// put is l with another account in place i.
func put(l []api.Account, i int, a api.Account) []api.Account {
	return slices.Concat(l[:i], of(a), l[i+1:])
}

// rightNames are names.
var rightNames = []string{
	"a", "m", "z", "ab", "az", "za", "a0", "a9", "a-", "a_", "a-1_b", "a--", "a__", "z9-_", "all", "phys", "x-y-z", "abcdefghijklmno", "abcdefghijklmnop", "a---------------", "z_______________", "a999999999999999",
}

// wrongNames are texts that are no names.
var wrongNames = []string{
	"", " ", "-", "_", "0", "5", "9", "-a", "_a", "0a", "1a", "9a", "A", "Z", "M", "Ab", "aB", "abC", "aZ", "a b", " a", "a ", "a.", "a/", "a:", "a,", "a+", "a`", "a{", "a@", "a[", "a^", "`", "{", "`a", "{a", "/a", ":a", "@", "[",
	"a\x00", "\x00", "\x00a", "a\n", "a\t", "a\x7f", "\x7f",
	"abcdefghijklmnopq", "abcdefghijklmnop ", "a----------------", "1bcdefghijklmnop", "abcdefghijklmnoP", "abcdefghijklmno.",
	"é", "aé", "éa", "ä", "aü", "ａ", "aａ", "٣", "a٣", "a－", "a‐", "a–", "a＿", "š", "aš", "ša", "\u212a", "ſ", "ı", "a\u0301", "\U0001F600", "a\U0001F600", "\u4161", "a\u4161", "a\U00010061", "\ufeffa", "\ufffd", "a\ufffd", "éééééééé", "aéééééééé",
	"\xff", "a\xff", "\xffa", "\x80", "a\x80", "\xc3", "a\xc3", "a\xc3b", "\xe1", "a\xe1", "\xc1\xa1", "a\xc1\xa1", "\xed\xa0\x80", "a\xed\xa0\x80", "\xf0\x9f\x98", "a\xf4\x90\x80\x80", "\xc0\x80", "abcdefghijklmno\xff", "abcdefghijklmno\xc3",
}

// isName asks each word of the chapter for itself, byte by byte.
func isName(s string) bool {
	if len(s) == 0 || len(s) >= maxName+1 || !strings.Contains(letters, s[:1]) {
		return false
	}
	for i := range len(s) {
		if strings.IndexByte(behind, s[i]) < 0 {
			return false
		}
	}
	return true
}

// isRight asks each word of the chapter for itself.
func isRight(l []api.Account) bool {
	if len(l) == 0 || len(l) > maxAccounts {
		return false
	}
	right := true
	for i, a := range l {
		right = right && isName(a.Name) && a.Limit > -2 && a.Limit < mostLimit+1
		hasParent := a.Parent == ""
		for k, b := range l {
			right = right && (k == i || b.Name != a.Name)
			hasParent = hasParent || k < i && b.Name == a.Parent
		}
		right = right && hasParent
	}
	return right
}

// findOf is Find in plain words.
func findOf(l []api.Account, name string) (int, bool) {
	for i := range l {
		if l[i].Name == name {
			return i, true
		}
	}
	return 0, false
}

// P14.1: Name, with each edge that the document names.
func TestName(t *testing.T) {
	for _, s := range rightNames {
		if !tree.Name(s) || !isName(s) {
			t.Errorf("%q: is none", s)
		}
	}
	for _, s := range wrongNames {
		if tree.Name(s) || isName(s) {
			t.Errorf("%q: is one", s)
		}
	}
}

// P14.1: Name of every byte, and of every two.
func TestNameOfEachByte(t *testing.T) {
	for i := range 256 {
		first := string([]byte{byte(i)})
		if tree.Name(first) != (i >= 97 && i <= 122) {
			t.Errorf("%q: %v", first, tree.Name(first))
		}
		for k := range 256 {
			if s := first + string([]byte{byte(k)}); tree.Name(s) != isName(s) {
				t.Errorf("%q: %v", s, tree.Name(s))
			}
		}
	}
}

// P14.1: Name with every byte in every place of names of every length.
func TestNameOfEachPlace(t *testing.T) {
	long := letters[:maxName+1]
	for length := 1; length <= maxName+1; length++ {
		for place := range length {
			for i := range 256 {
				b := []byte(long[:length])
				b[place] = byte(i)
				if s := string(b); tree.Name(s) != isName(s) {
					t.Errorf("%q: %v", s, tree.Name(s))
				}
			}
		}
	}
}

// P14.1: Name of every length.
func TestNameOfEachLength(t *testing.T) {
	for length := range 600 {
		for _, one := range []string{"a", "z"} {
			if s := strings.Repeat(one, length); tree.Name(s) != (length >= 1 && length <= maxName) {
				t.Errorf("%d bytes: %v", length, tree.Name(s))
			}
		}
	}
	for _, length := range []int{1<<16 + 1, 1<<16 + maxName, 1 << 20} {
		if tree.Name(strings.Repeat("a", length)) {
			t.Errorf("%d bytes: are a name", length)
		}
	}
}

// P14.1: Name of every rune of more than one byte, alone and behind a letter: none is one.
func TestNameOfEachRune(t *testing.T) {
	for r := rune(128); r <= 0x10FFFF; r++ {
		if s := string(r); tree.Name(s) || tree.Name("a"+s) || tree.Name("a"+s+"b") {
			t.Fatalf("%U is in a name", r)
		}
	}
}

// P14.1: Name of any texts.
func TestNameOfAny(t *testing.T) {
	d := dice(1)
	right := 0
	for range 50000 {
		b := []byte(d.name())
		if d.below(2) == 0 {
			b[d.below(len(b))] = byte(d.below(256))
		}
		if d.below(8) == 0 {
			b = append(b, d.name()...)
		}
		s := string(b)
		if tree.Name(s) != isName(s) {
			t.Fatalf("%q: %v", s, !isName(s))
		}
		if isName(s) {
			right++
		}
	}
	if right < 15000 || right > 45000 {
		t.Errorf("the test is wrong: %d are names", right)
	}
}

// rightTrees are trees that are right.
func rightTrees() map[string][]api.Account {
	trees := map[string][]api.Account{
		"the chapter's":             chapters(),
		"one":                       of(root("a", 0)),
		"one of the longest name":   of(root("abcdefghijklmnop", 0)),
		"two roots":                 of(root("a", 0), root("b", 0)),
		"a root behind a child":     of(root("a", 0), child("b", "a", 0), root("c", 0), child("d", "c", 0), child("e", "b", 0)),
		"a parent just ahead":       of(root("a", 0), root("b", 0), child("c", "b", 0)),
		"a parent far ahead":        of(root("a", 0), root("b", 0), child("c", "a", 0)),
		"names that begin alike":    of(root("a", 1), child("aa", "a", 2), child("aaa", "aa", 3), child("a-a", "aaa", 4)),
		"the root's name is last":   of(root("z", 1), child("y", "z", 2), child("x", "y", 3)),
		"a Limit of -1":             of(root("a", -1)),
		"a Limit of 1":              of(root("a", 1)),
		"a Limit of 2^30 - 1":       of(root("a", mostLimit-1)),
		"a Limit of 2^30":           of(root("a", mostLimit)),
		"a greater one than above":  of(root("a", 1), child("b", "a", 8), child("c", "b", -1)),
		"-1 and 2^30 below another": of(root("a", 0), child("b", "a", -1), child("c", "a", mostLimit)),
	}
	for _, n := range []int{2, 3, maxAccounts - 1, maxAccounts} {
		trees[strconv.Itoa(n)+" in one path"] = line(n)
		trees[strconv.Itoa(n)+" below one"] = star(n)
		trees[strconv.Itoa(n)+" roots"] = roots(n)
	}
	for _, s := range rightNames {
		trees["named "+s] = of(root(s, 0))
		trees["below, named "+s] = of(root("k", 0), child(s, "k", 0), child("kk", s, 0))
	}
	return trees
}

// wrongTrees are lists that are no right trees.
func wrongTrees() map[string][]api.Account {
	trees := map[string][]api.Account{
		"no list":                      nil,
		"the empty list":               {},
		"a zero account":               make([]api.Account, 1),
		"MaxAccounts of zero":          make([]api.Account, maxAccounts),
		"one more of zero":             make([]api.Account, maxAccounts+1),
		"the chapter's, no root":       chapters()[1:],
		"the chapter's, phys ahead":    of(child("phys", "all", 8), root("all", -1), child("bio", "all", 0), child("lab", "phys", 3)),
		"the chapter's, lab ahead":     of(root("all", -1), child("lab", "phys", 3), child("phys", "all", 8), child("bio", "all", 0)),
		"no root":                      of(child("a", "a", 0)),
		"no root, each other's parent": of(child("a", "b", 0), child("b", "a", 0)),
		"a ring of three":              of(child("a", "b", 0), child("b", "c", 0), child("c", "a", 0)),
		"a ring behind a root":         of(root("r", 0), child("a", "b", 0), child("b", "a", 0)),
		"the parent is not there":      of(child("a", "b", 0)),
		"the parent is next":           of(child("a", "b", 0), root("b", 0)),
		"the parent is last":           of(root("a", 0), child("b", "d", 0), root("c", 0), root("d", 0)),
		"a parent in capitals":         of(root("a", 0), child("b", "A", 0)),
		"a parent and a blank":         of(root("a", 0), child("b", "a ", 0)),
		"a parent that is a blank":     of(root("a", 0), child("b", " ", 0)),
		"the beginning of a parent":    of(root("ab", 0), child("b", "a", 0)),
		"more than a parent":           of(root("a", 0), child("b", "aa", 0)),
		"a name twice":                 of(root("a", 0), root("a", 0)),
		"a name twice, last":           of(root("a", 0), root("b", 0), root("a", 0)),
		"a name twice, unlike":         of(root("a", 0), root("b", 1), child("a", "b", 2)),
		"a name twice, below itself":   of(root("a", 0), child("a", "a", 0)),
		"a name twice, both below":     of(root("r", 0), child("a", "r", 0), child("a", "r", 0)),
		"the last two are one":         append(roots(maxAccounts-1), root(numbered(maxAccounts-2), 0)),
		"the first and the last":       append(roots(maxAccounts-1), root(numbered(0), 0)),
	}
	for _, n := range []int{maxAccounts + 1, maxAccounts + 2, 2 * maxAccounts, 256, 256 + maxAccounts} {
		trees[strconv.Itoa(n)+" in one path"] = line(n)
		trees[strconv.Itoa(n)+" below one"] = star(n)
		trees[strconv.Itoa(n)+" roots"] = roots(n)
	}
	for name, a := range wrongAccounts() {
		trees[name+", alone"] = of(a)
		trees[name+", first"] = of(a, root("a", 0), child("b", "a", 0))
		trees[name+", between"] = of(root("a", 0), a, child("b", "a", 0))
		trees[name+", last"] = of(root("a", 0), child("b", "a", 0), a)
		trees[name+", last of MaxAccounts"] = append(roots(maxAccounts-1), a)
	}
	return trees
}

// wrongAccounts are accounts that no right tree has behind accounts a and b alone.
func wrongAccounts() map[string]api.Account {
	accounts := map[string]api.Account{
		"the account itself":      child("c", "c", 0),
		"no such parent":          child("c", "zz", 0),
		"all is wrong":            child("C", "C", -2),
		"a name and a Limit":      root("", -2),
		"a Parent that is no one": child("c", "", -2),
	}
	for _, n := range []int{math.MinInt, -mostLimit, -3, -2, mostLimit + 1, mostLimit + 2, 1 << 32, 1<<32 + 8, math.MaxInt} {
		accounts["a Limit of "+strconv.Itoa(n)] = root("c", n)
	}
	for _, s := range wrongNames {
		accounts["named "+strconv.Quote(s)] = root(s, 0)
		if s != "" {
			accounts["below "+strconv.Quote(s)] = child("c", s, 0)
		}
	}
	return accounts
}

// allTrees are trees that are right, and others.
func allTrees() map[string][]api.Account {
	trees := wrongTrees()
	for name, l := range rightTrees() {
		trees["right: "+name] = l
	}
	return trees
}

// P14.1: Right, with each edge that the document names.
func TestRight(t *testing.T) {
	for name, l := range rightTrees() {
		if !tree.Right(l) || !isRight(l) {
			t.Errorf("%s: is not right", name)
		}
	}
	for name, l := range wrongTrees() {
		if tree.Right(l) || isRight(l) {
			t.Errorf("%s: is right", name)
		}
	}
}

// P14.1: Right, with each limit and each name in each place, and of every length.
func TestRightOfEachPlace(t *testing.T) {
	names := slices.Concat(rightNames, wrongNames)
	for name, l := range rightTrees() {
		for i := range l {
			for _, n := range manyLimits {
				m := slices.Clone(l)
				m[i].Limit = n
				if tree.Right(m) != (n >= -1 && n <= mostLimit) {
					t.Errorf("%s: a Limit of %d in place %d: %v", name, n, i, tree.Right(m))
				}
			}
			for _, s := range names {
				m, p := slices.Clone(l), slices.Clone(l)
				m[i].Name, p[i].Parent = s, s
				if tree.Right(m) != isRight(m) || tree.Right(p) != isRight(p) {
					t.Errorf("%s: %q in place %d: %v, %v", name, s, i, tree.Right(m), tree.Right(p))
				}
			}
		}
	}
	for count := range 300 {
		for _, l := range [][]api.Account{line(count), star(count), roots(count)} {
			if tree.Right(l) != (count >= 1 && count <= maxAccounts) {
				t.Errorf("%d accounts: %v", count, tree.Right(l))
			}
		}
	}
	if tree.Right(roots(1 << 16)) {
		t.Error("many accounts are right")
	}
}

// P14.1: Right, with every account of a tree as the parent of every other one: just those ahead may be.
func TestRightOfEachParent(t *testing.T) {
	l := roots(maxAccounts)
	for i := range l {
		for k := range l {
			m := slices.Clone(l)
			m[i].Parent = l[k].Name
			if tree.Right(m) != (k < i) {
				t.Errorf("account %d with parent %d: %v", i, k, tree.Right(m))
			}
			m = slices.Clone(l)
			m[i].Name = l[k].Name
			if tree.Right(m) != (k == i) {
				t.Errorf("account %d with the name of %d: %v", i, k, tree.Right(m))
			}
		}
	}
}

// P14.1: Right of any trees.
func TestRightOfAny(t *testing.T) {
	d := dice(2)
	right := 0
	for range 20000 {
		if l := d.tree(maxAccounts); !tree.Right(l) {
			t.Fatalf("%v: is not right", l)
		}
		l := d.wild()
		if tree.Right(l) != isRight(l) {
			t.Fatalf("%v: %v", l, !isRight(l))
		}
		if isRight(l) {
			right++
		}
	}
	if right < 4000 || right > 16000 {
		t.Errorf("the test is wrong: %d are right", right)
	}
}

// P14.1: Find, with each edge that the document names.
func TestFind(t *testing.T) {
	twice := of(root("x", 0), root("a", 1), root("b", 2), root("a", 3), root("a", 4))
	for name, c := range map[string]struct {
		l    []api.Account
		name string
		i    int
		ok   bool
	}{
		"the first":                  {chapters(), "all", 0, true},
		"one between":                {chapters(), "bio", 2, true},
		"the last":                   {chapters(), "lab", 3, true},
		"no one":                     {chapters(), "x", 0, false},
		"the empty name":             {chapters(), "", 0, false},
		"capitals":                   {chapters(), "ALL", 0, false},
		"a name's beginning":         {chapters(), "al", 0, false},
		"more than a name":           {chapters(), "alll", 0, false},
		"a name and a blank":         {chapters(), "all ", 0, false},
		"no list":                    {nil, "a", 0, false},
		"no list, the empty name":    {nil, "", 0, false},
		"the empty list":             {[]api.Account{}, "a", 0, false},
		"a name that stands twice":   {twice, "a", 1, true},
		"one between them":           {twice, "b", 2, true},
		"one ahead of them":          {twice, "x", 0, true},
		"a parent that is no one":    {of(child("a", "b", 0)), "b", 0, false},
		"a parent that is later":     {of(child("a", "b", 0), root("b", 0)), "b", 1, true},
		"an account in a ring":       {of(child("a", "b", 0), child("b", "a", 0)), "b", 1, true},
		"no Limit may be so":         {of(root("a", -2), root("b", mostLimit+1)), "b", 1, true},
		"the empty name is there":    {of(root("a", 0), root("", 0), root("", 1)), "", 1, true},
		"the empty name is first":    {make([]api.Account, 3), "", 0, true},
		"the empty name is last":     {of(root("a", 0), child("b", "a", 0), child("", "a", 0)), "", 2, true},
		"a text that is no name":     {of(root("a", 0), root("B c", 0)), "B c", 1, true},
		"bytes that are no rune":     {of(root("a", 0), root("\xff", 0), root("\xfe", 0)), "\xfe", 2, true},
		"bytes that are another one": {of(root("\xff", 0), root("\ufffd", 0)), "\ufffd", 1, true},
		"a nought behind":            {of(root("a\x00", 0), root("a", 0)), "a", 1, true},
		"MaxAccounts, the last":      {roots(maxAccounts), numbered(maxAccounts - 1), maxAccounts - 1, true},
		"behind MaxAccounts":         {roots(maxAccounts + 1), numbered(maxAccounts), maxAccounts, true},
		"far behind":                 {roots(70000), numbered(69999), 69999, true},
		"not among many":             {roots(70000), "b", 0, false},
	} {
		for range 2 {
			if i, ok := tree.Find(c.l, c.name); i != c.i || ok != c.ok {
				t.Errorf("%s: %d, %v, not %d, %v", name, i, ok, c.i, c.ok)
			}
		}
	}
}

// askedNames are names to ask of l: all that it has, as names and as parents, and some that it has not.
func askedNames(l []api.Account) []string {
	names := slices.Concat(rightNames, wrongNames)
	for _, a := range l {
		names = append(names, a.Name, a.Parent, a.Name+"x", strings.ToUpper(a.Name))
	}
	return names
}

// P14.1: Find of each list that is right or not, and of any.
func TestFindOfAny(t *testing.T) {
	check := func(l []api.Account) {
		t.Helper()
		for _, s := range askedNames(l) {
			want, has := findOf(l, s)
			if i, ok := tree.Find(l, s); i != want || ok != has {
				t.Fatalf("%v: %q: %d, %v, not %d, %v", l, s, i, ok, want, has)
			}
		}
	}
	for _, l := range allTrees() {
		check(l)
	}
	d := dice(3)
	for range 1000 {
		check(d.wild())
	}
}
