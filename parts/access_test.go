package parts_test

import (
	"math"
	"slices"
	"strconv"
	"testing"

	"muster/api"
	"muster/parts"
)

// findOf is Find in plain words: from the last one on to the first.
func findOf(l []api.Part, name string) (int, bool) {
	at, has := 0, false
	for i := len(l) - 1; i >= 0; i-- {
		if l[i].Name == name {
			at, has = i, true
		}
	}
	return at, has
}

// isUpon goes up from that account of a right tree, and tells whether it comes to the other one.
func isUpon(l []api.Account, account, other string) bool {
	for i := len(l) - 1; i >= 0; i-- {
		if l[i].Name == account && account == other {
			return true
		}
		if l[i].Name == account {
			account = l[i].Parent
		}
	}
	return false
}

// admitsOf is Admits in plain words.
func admitsOf(accounts []api.Account, who []string, account string) bool {
	admit := len(who) == 0
	for _, name := range who {
		admit = admit || isUpon(accounts, account, name)
	}
	return isTree(accounts) && hasAccount(accounts, account) && admit
}

// P16.1: Find, with each edge that the document names.
func TestFind(t *testing.T) {
	twice := of(part("b", 1, 1), part("a", 1, 1), part("a", 2, 2), part("b", 2, 2))
	strange := of(part("", 0, 0), part("X", 0, -1), part("\xff", 9, 1), part("X", 1, 1))
	for name, x := range map[string]struct {
		l    []api.Part
		name string
		at   int
		has  bool
	}{
		"the first":                          {chapters().Parts, "main", 0, true},
		"the second":                         {chapters().Parts, "big", 1, true},
		"the last of MaxParts":               {partitions(maxParts), numbered(maxParts - 1), maxParts - 1, true},
		"one behind MaxParts":                {partitions(300), numbered(299), 299, true},
		"of two the first":                   {twice, "a", 1, true},
		"of two, apart, the first":           {twice, "b", 0, true},
		"the empty name, where one has it":   {strange, "", 0, true},
		"no name, where one has it":          {strange, "X", 1, true},
		"a byte that is no letter":           {strange, "\xff", 2, true},
		"not there":                          {chapters().Parts, "x", 0, false},
		"the empty name":                     {chapters().Parts, "", 0, false},
		"in capitals":                        {chapters().Parts, "Main", 0, false},
		"a beginning of one":                 {chapters().Parts, "mai", 0, false},
		"one and more":                       {chapters().Parts, "main ", 0, false},
		"an account that may use it":         {chapters().Parts, "phys", 0, false},
		"of none":                            {nil, "main", 0, false},
		"of an empty list":                   {[]api.Part{}, "main", 0, false},
		"the empty name of none":             {nil, "", 0, false},
		"of twice MaxParts, one not there":   {partitions(2 * maxParts), "x", 0, false},
		"behind the list, in its spare room": {chapters().Parts[:1], "big", 0, false},
	} {
		for range 2 {
			if at, has := parts.Find(x.l, x.name); at != x.at || has != x.has {
				t.Errorf("%s: %d, %v", name, at, has)
			}
		}
		if at, has := findOf(x.l, x.name); at != x.at || has != x.has {
			t.Errorf("%s: the test is wrong: %d, %v", name, at, has)
		}
	}
}

// P16.1: Find of any lists, in which names stand twice, too.
func TestFindOfAny(t *testing.T) {
	d := dice(2)
	found := 0
	for range 20000 {
		var l []api.Part
		for range d.below(12) {
			l = append(l, api.Part{Name: numbered(d.below(6)), Nodes: api.Set(d.next()), Prio: d.below(5)})
		}
		name := numbered(d.below(9))
		want, is := findOf(l, name)
		if at, has := parts.Find(l, name); at != want || has != is {
			t.Fatalf("%v, %s: %d, %v", l, name, at, has)
		}
		if is {
			found++
		}
	}
	if found < 5000 || found > 15000 {
		t.Errorf("the test is wrong: %d are found", found)
	}
}

// forest is two trees, their accounts among each other: r with a (below it e, with h, and g) and c, s with b.
func forest() []api.Account {
	return of(root("r"), root("s"), child("b", "s"), child("a", "r"), child("c", "r"), child("e", "a"), child("g", "a"), child("h", "e"))
}

// P16.1: Admits, with each edge that the document names.
func TestAdmits(t *testing.T) {
	for name, x := range map[string]struct {
		accounts []api.Account
		who      []string
		account  string
		want     bool
	}{
		"no one is named":                        {forest(), nil, "e", true},
		"an empty list":                          {forest(), []string{}, "r", true},
		"itself":                                 {forest(), of("e"), "e", true},
		"its parent":                             {forest(), of("a"), "e", true},
		"its root":                               {forest(), of("r"), "e", true},
		"its root, from the lowest":              {forest(), of("r"), "h", true},
		"a root, itself":                         {forest(), of("s"), "s", true},
		"its child":                              {forest(), of("e"), "a", false},
		"all below it":                           {forest(), of("e", "g", "h"), "a", false},
		"all below a root":                       {forest(), of("a", "c", "e", "g", "h"), "r", false},
		"beside it":                              {forest(), of("g"), "e", false},
		"beside its parent":                      {forest(), of("c"), "e", false},
		"below one beside it":                    {forest(), of("h"), "g", false},
		"another root":                           {forest(), of("s"), "e", false},
		"in the other tree":                      {forest(), of("b"), "e", false},
		"all that are not on its path":           {forest(), of("s", "b", "c", "g", "h"), "e", false},
		"the first of some":                      {forest(), of("a", "b", "c"), "e", true},
		"the last of some":                       {forest(), of("b", "c", "a"), "e", true},
		"the one between":                        {forest(), of("b", "r", "s"), "e", true},
		"all of its path":                        {forest(), of("r", "a", "e"), "e", true},
		"one twice":                              {forest(), of("a", "a"), "e", true},
		"one beside, twice":                      {forest(), of("g", "g"), "e", false},
		"more than MaxAccess, its own last":      {forest(), append(slices.Repeat(of("g"), 20), "e"), "e", true},
		"more than MaxAccess, none on its path":  {forest(), slices.Repeat(of("g"), 20), "e", false},
		"one that is not there":                  {forest(), of("x"), "e", false},
		"one that is not there, and its parent":  {forest(), of("x", "a"), "e", true},
		"the empty name, a root's parent":        {forest(), of(""), "r", false},
		"the empty name, of others":              {forest(), of(""), "e", false},
		"capitals":                               {forest(), of("E"), "e", false},
		"one and more":                           {forest(), of("e "), "e", false},
		"the account is not there":               {forest(), nil, "x", false},
		"the account is not there, but is named": {forest(), of("x"), "x", false},
		"the account is empty":                   {forest(), nil, "", false},
		"the account is empty, and named":        {forest(), of(""), "", false},
		"the account is in capitals":             {forest(), nil, "E", false},
		"no accounts":                            {nil, nil, "e", false},
		"no accounts, the empty name":            {nil, nil, "", false},
		"an empty list of accounts":              {[]api.Account{}, of("e"), "e", false},
		"a tree with a name twice":               {append(forest(), root("r")), nil, "e", false},
		"a tree with a name twice, named":        {append(forest(), root("r")), of("e"), "e", false},
		"a parent that is not there":             {append(forest(), child("x", "y")), of("e"), "e", false},
		"a parent that is behind":                {append(of(child("k", "r")), forest()...), of("r"), "r", false},
		"a ring":                                 {of(child("a", "b"), child("b", "a")), of("a"), "b", false},
		"its own parent":                         {of(child("a", "a")), of("a"), "a", false},
		"a limit that may not be":                {append(forest(), api.Account{Name: "x", Limit: -2}), nil, "e", false},
		"one account too many":                   {roots(maxAccounts + 1), of(numbered(0)), numbered(0), false},
		"MaxAccounts":                            {roots(maxAccounts), of(numbered(maxAccounts - 1)), numbered(maxAccounts - 1), true},
		"no name in the tree":                    {append(forest(), root("X")), of("e"), "e", false},
	} {
		for range 2 {
			if is := parts.Admits(x.accounts, x.who, x.account); is != x.want {
				t.Errorf("%s: %v", name, is)
			}
		}
		if is := admitsOf(x.accounts, x.who, x.account); is != x.want {
			t.Errorf("%s: the test is wrong: %v", name, is)
		}
	}
}

// P16.1: Admits of each account for each, in one long path: those that stand ahead of it, and itself.
func TestAdmitsOnALongPath(t *testing.T) {
	line := roots(maxAccounts)
	for i := 1; i < maxAccounts; i++ {
		line[i].Parent = numbered(i - 1)
	}
	for i := range maxAccounts {
		for k := range maxAccounts {
			if is := parts.Admits(line, of(numbered(k)), numbered(i)); is != (k <= i) {
				t.Errorf("%d for %d: %v", k, i, is)
			}
			if is := parts.Admits(roots(maxAccounts), of(numbered(k)), numbered(i)); is != (k == i) {
				t.Errorf("roots: %d for %d: %v", k, i, is)
			}
		}
	}
}

// P16.1: Admits of any trees and names.
func TestAdmitsOfAny(t *testing.T) {
	d := dice(3)
	told := map[string]int{}
	for range 30000 {
		c := d.config()
		if d.below(4) == 0 {
			c = d.wild()
		}
		who := d.users(c.Accounts)
		if d.below(6) == 0 {
			who = append(who, d.name(), "")
		}
		account := one(&d, c.Accounts).Name
		if d.below(12) == 0 {
			account = one(&d, of("", d.name()))
		}
		want := admitsOf(c.Accounts, who, account)
		if is := parts.Admits(c.Accounts, who, account); is != want {
			t.Fatalf("Admits(%v, %v, %q) = %v", c.Accounts, who, account, is)
		}
		told[strconv.FormatBool(isTree(c.Accounts))+" "+strconv.FormatBool(want)]++
	}
	if told["true true"] < 8000 || told["true false"] < 5000 || told["false false"] < 500 {
		t.Errorf("the test is wrong: %v", told)
	}
}

// P16.1: of accounts and partitions nothing is asked that the words do not name.
func TestOthersAreNotAsked(t *testing.T) {
	l := forest()
	for i := range l {
		l[i].Limit = 0
	}
	if !parts.Admits(l, of("a"), "e") || parts.Admits(l, of("g"), "e") {
		t.Error("a limit of 0 counts")
	}
	p := of(api.Part{Name: "a", Nodes: math.MaxUint32, Prio: -1, MaxLimit: -1, Accounts: of("", "", "x")}, api.Part{Name: "b"})
	for i, name := range of("a", "b") {
		if at, has := parts.Find(p, name); at != i || !has {
			t.Errorf("%s: %d, %v", name, at, has)
		}
	}
}
