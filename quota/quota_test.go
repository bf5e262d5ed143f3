package quota_test

import (
	"math"
	"slices"
	"strconv"
	"strings"
	"testing"

	"muster/api"
	"muster/quota"
)

// The tests' own numbers, so that they don't lean on what they test.
const (
	maxName     = 16
	maxAccounts = 16
	maxQos      = 8
	mostPrio    = 1000
	mostLimit   = 1073741824 // 2^30
	mostAsked   = 64         // nodes, and cores, of a spec of which something is promised
	letters     = "abcdefghijklmnopqrstuvwxyz"
	behind      = letters + "0123456789-_"
)

// root is an account without a parent.
func root(name string, limit int) api.Account { return api.Account{Name: name, Limit: limit} }

// child is an account with a parent.
func child(name, parent string, limit int) api.Account {
	return api.Account{Name: name, Parent: parent, Limit: limit}
}

// quality is one without a priority.
func quality(name string, limit, jobs int) api.Qos {
	return api.Qos{Name: name, Limit: limit, Jobs: jobs}
}

// of is the list of these elements.
func of[T any](l ...T) []T { return l }

// config is one with these accounts and qualities, and nothing else.
func config(accounts []api.Account, qualities []api.Qos) api.Config {
	return api.Config{Accounts: accounts, Qos: qualities}
}

// spec is what a job asks for.
func spec(account, quality string, nodes, cores int) api.Spec {
	return api.Spec{Account: account, Qos: quality, Nodes: nodes, Cores: cores}
}

// running is a job that runs.
func running(account, quality string, nodes, cores int) api.Job {
	return inState(api.Running, spec(account, quality, nodes, cores))
}

// inState is a job in that state.
func inState(state api.JobState, s api.Spec) api.Job { return api.Job{State: state, Spec: s} }

// chapters is the config of the chapter's examples.
func chapters() api.Config {
	return config(of(root("all", 10), child("phys", "all", 8)), of(quality("normal", -1, 2)))
}

// numbered is the name of the i-th account, or quality, of long lists.
func numbered(i int) string { return "a" + strconv.Itoa(i) }

// line is n accounts in one path.
func line(n int) []api.Account {
	l := roots(n)
	for i := 1; i < n; i++ {
		l[i].Parent = numbered(i - 1)
	}
	return l
}

// roots is n accounts without a parent and without a limit.
func roots(n int) []api.Account {
	var l []api.Account
	for i := range n {
		l = append(l, root(numbered(i), -1))
	}
	return l
}

// qualities is n qualities without limits.
func qualities(n int) []api.Qos {
	var l []api.Qos
	for i := range n {
		l = append(l, api.Qos{Name: numbered(i), Prio: i, Limit: -1, Jobs: -1})
	}
	return l
}

// isName asks each word of chapter 14 for itself, byte by byte.
func isName(s string) bool {
	if len(s) == 0 || len(s) >= maxName+1 || !strings.Contains(letters, s[:1]) {
		return false
	}
	for i := range len(s) {
		if strings.IndexByte(behind, s[i]) < 0 {
			return false
		}
	}
	return true
}

// isLimit tells whether n may be a limit.
func isLimit(n int) bool { return n > -2 && n < mostLimit+1 }

// isTree asks each word of chapter 14 for itself.
func isTree(l []api.Account) bool {
	right := len(l) > 0 && len(l) <= maxAccounts
	for i, a := range l {
		right = right && isName(a.Name) && isLimit(a.Limit)
		hasParent := a.Parent == ""
		for k, b := range l {
			right = right && (k == i || b.Name != a.Name)
			hasParent = hasParent || k < i && b.Name == a.Parent
		}
		right = right && hasParent
	}
	return right
}

// areQualities asks each word of the chapter for itself.
func areQualities(l []api.Qos) bool {
	right := len(l) > 0 && len(l) <= maxQos
	for i, q := range l {
		right = right && isName(q.Name) && q.Prio > -1 && q.Prio < mostPrio+1 && isLimit(q.Limit) && isLimit(q.Jobs)
		for _, other := range l[:i] {
			right = right && other.Name != q.Name
		}
	}
	return right
}

// isRight is Right in plain words.
func isRight(c api.Config) bool { return isTree(c.Accounts) && areQualities(c.Qos) }

// manyLimits are numbers that may be limits, those just beside them, and others.
var manyLimits = []int{math.MinInt, -1 << 32, -mostLimit, -3, -2, -1, 0, 1, 2, 8, mostLimit - 1, mostLimit, mostLimit + 1, mostLimit + 2, 1 << 31, 1<<32 - 1, 1 << 32, 1<<32 + 8, math.MaxInt}

// manyPrios are numbers that may be priorities, those just beside them, and others.
var manyPrios = []int{math.MinInt, -1000, -2, -1, 0, 1, 999, 1000, 1001, 1002, 1 << 16, 1 << 32, 1<<32 + 5, math.MaxInt}

// rightNames are names.
var rightNames = []string{"a", "z", "a0", "a-", "a_", "z9-_", "normal", "abcdefghijklmno", "abcdefghijklmnop"}

// wrongNames are texts that are no names.
var wrongNames = []string{"", " ", "-", "_", "0", "0a", "-a", "_a", "A", "aB", "Normal", "a b", "a ", " a", "a.", "a\x00", "\x00", "é", "aé", "a\xff", "\xff", "abcdefghijklmnopq", "abcdefghijklmno.", "éééééééé"}

// rightQualities are lists that are right.
func rightQualities() map[string][]api.Qos {
	lists := map[string][]api.Qos{
		"the chapter's":            chapters().Qos,
		"of 0 in all":              of(quality("a", 0, 0)),
		"two":                      of(quality("a", 0, 0), quality("b", 0, 0)),
		"names that begin alike":   of(quality("a", 1, 2), quality("aa", 1, 2), quality("aaa", 1, 2)),
		"MaxQos less one":          qualities(maxQos - 1),
		"MaxQos":                   qualities(maxQos),
		"all at their least":       of(api.Qos{Name: "a", Prio: 0, Limit: -1, Jobs: -1}),
		"all at their most":        of(api.Qos{Name: "abcdefghijklmnop", Prio: mostPrio, Limit: mostLimit, Jobs: mostLimit}),
		"fewer cores than jobs":    of(quality("a", 1, 8)),
		"one priority for all":     of(api.Qos{Name: "a", Prio: 7}, api.Qos{Name: "b", Prio: 7}),
		"an account's name":        of(quality("all", -1, -1), quality("phys", -1, -1)),
		"a Prio of 1000, last":     append(qualities(maxQos-1), api.Qos{Name: "x", Prio: mostPrio}),
		"a Limit of 2^30, last":    append(qualities(maxQos-1), quality("x", mostLimit, 0)),
		"Jobs of 2^30, last":       append(qualities(maxQos-1), quality("x", 0, mostLimit)),
		"the names fall":           of(quality("c", 0, 0), quality("b", 0, 0), quality("a", 0, 0)),
		"unlike in the last byte":  of(quality("abcdefghijklmnop", 0, 0), quality("abcdefghijklmnoq", 0, 0)),
		"unlike in the first byte": of(quality("a123", 0, 0), quality("b123", 0, 0)),
	}
	for _, s := range rightNames {
		lists["named "+s] = of(quality("k", 0, 0), quality(s, 0, 0))
	}
	return lists
}

// wrongQualities are lists that are not right.
func wrongQualities() map[string][]api.Qos {
	lists := map[string][]api.Qos{
		"none":                         nil,
		"the empty list":               {},
		"a zero quality":               make([]api.Qos, 1),
		"MaxQos and one more":          qualities(maxQos + 1),
		"MaxQos and two more":          qualities(maxQos + 2),
		"twice MaxQos":                 qualities(2 * maxQos),
		"256":                          qualities(256),
		"256 and MaxQos":               qualities(256 + maxQos),
		"two of one name":              of(quality("a", 0, 0), quality("a", 0, 0)),
		"two of one name, unlike":      of(quality("a", 0, 0), api.Qos{Name: "a", Prio: 5, Limit: 6, Jobs: 7}),
		"two of one name, not next":    of(quality("a", 0, 0), quality("b", 0, 0), quality("a", 0, 0)),
		"the last two of one name":     of(quality("a", 0, 0), quality("b", 0, 0), quality("b", 0, 0)),
		"three of one name":            of(quality("a", 0, 0), quality("a", 0, 0), quality("a", 0, 0)),
		"the first and the last":       append(qualities(maxQos-1), quality(numbered(0), 0, 0)),
		"the last two of MaxQos":       append(qualities(maxQos-1), quality(numbered(maxQos-2), 0, 0)),
		"two of one name, one is none": of(quality("A", 0, 0), quality("A", 0, 0)),
	}
	for name, q := range wrongQos() {
		lists[name+", alone"] = of(q)
		lists[name+", first"] = of(q, quality("a", 0, 0))
		lists[name+", between"] = of(quality("a", 0, 0), q, quality("b", 0, 0))
		lists[name+", last"] = of(quality("a", 0, 0), q)
		lists[name+", last of MaxQos"] = append(qualities(maxQos-1), q)
	}
	return lists
}

// wrongQos are qualities that no right list has.
func wrongQos() map[string]api.Qos {
	all := map[string]api.Qos{
		"all is wrong": {Name: "X", Prio: -1, Limit: -2, Jobs: -2},
	}
	for _, s := range wrongNames {
		all["named "+strconv.Quote(s)] = quality(s, 0, 0)
	}
	for _, n := range []int{math.MinInt, -1000, -2, -1, mostPrio + 1, mostPrio + 2, 1 << 32, math.MaxInt} {
		all["a Prio of "+strconv.Itoa(n)] = api.Qos{Name: "x", Prio: n}
	}
	for _, n := range []int{math.MinInt, -mostLimit, -3, -2, mostLimit + 1, mostLimit + 2, 1 << 32, 1<<32 + 8, math.MaxInt} {
		all["a Limit of "+strconv.Itoa(n)] = quality("x", n, 0)
		all["Jobs of "+strconv.Itoa(n)] = quality("x", 0, n)
	}
	return all
}

// rightTrees are trees that are right.
func rightTrees() map[string][]api.Account {
	return map[string][]api.Account{
		"the chapter's":          chapters().Accounts,
		"one":                    of(root("a", 0)),
		"two roots":              of(root("a", 0), root("b", 0)),
		"MaxAccounts in a path":  line(maxAccounts),
		"MaxAccounts roots":      roots(maxAccounts),
		"limits of -1 and 2^30":  of(root("a", -1), child("b", "a", mostLimit)),
		"a greater one below":    of(root("a", 1), child("b", "a", 8), child("c", "b", -1)),
		"named as the qualities": of(root("normal", 0), child("a", "normal", 0)),
	}
}

// wrongTrees are lists that are no right trees.
func wrongTrees() map[string][]api.Account {
	trees := map[string][]api.Account{
		"none":                    nil,
		"the empty list":          {},
		"a zero account":          make([]api.Account, 1),
		"one more than there may": roots(maxAccounts + 1),
		"the same, in a path":     line(maxAccounts + 1),
		"a name twice":            of(root("a", 0), root("a", 0)),
		"a name twice, not next":  of(root("a", 0), root("b", 0), child("a", "b", 0)),
		"no such parent":          of(root("a", 0), child("b", "c", 0)),
		"the parent is behind":    of(child("a", "b", 0), root("b", 0)),
		"its own parent":          of(child("a", "a", 0)),
		"a ring":                  of(child("a", "b", 0), child("b", "a", 0)),
		"a ring behind a root":    of(root("r", 0), child("a", "b", 0), child("b", "a", 0)),
		"a Limit of -2":           of(root("a", 0), root("b", -2)),
		"a Limit of 2^30 + 1":     of(root("a", 0), root("b", mostLimit+1)),
	}
	for _, s := range wrongNames {
		trees["named "+strconv.Quote(s)] = of(root("a", 0), root(s, 0))
	}
	return trees
}

// rightConfigs are configs that are right.
func rightConfigs() map[string]api.Config {
	all := map[string]api.Config{}
	for name, l := range rightTrees() {
		for other, m := range rightQualities() {
			all[name+"; "+other] = config(l, m)
		}
	}
	return all
}

// wrongConfigs are configs with accounts, or qualities, or both, that are not right.
func wrongConfigs() map[string]api.Config {
	all := map[string]api.Config{"nothing": {}}
	for name, l := range wrongTrees() {
		all["accounts: "+name] = config(l, chapters().Qos)
		all["accounts: "+name+", and no qualities"] = config(l, nil)
	}
	for name, l := range wrongQualities() {
		all["qualities: "+name] = config(chapters().Accounts, l)
		all["qualities: "+name+", and no accounts"] = config(nil, l)
	}
	return all
}

// P15.1: Right, with each edge that the document names.
func TestRight(t *testing.T) {
	for name, c := range rightConfigs() {
		if !quota.Right(c) || !isRight(c) {
			t.Errorf("%s: is not right", name)
		}
	}
	for name, c := range wrongConfigs() {
		if quota.Right(c) || isRight(c) {
			t.Errorf("%s: is right", name)
		}
	}
}

// P15.1: Right, with each number and each name in each place, and of every length.
func TestRightOfEachPlace(t *testing.T) {
	for i := range maxQos {
		check := func(what string, want bool, change func(q *api.Qos)) {
			t.Helper()
			c := config(chapters().Accounts, qualities(maxQos))
			change(&c.Qos[i])
			if quota.Right(c) != want || isRight(c) != want {
				t.Errorf("%s in place %d: %v", what, i, quota.Right(c))
			}
		}
		for _, n := range manyLimits {
			may := n == -1 || n >= 0 && n <= mostLimit
			check("a Limit of "+strconv.Itoa(n), may, func(q *api.Qos) { q.Limit = n })
			check("Jobs of "+strconv.Itoa(n), may, func(q *api.Qos) { q.Jobs = n })
		}
		for _, n := range manyPrios {
			check("a Prio of "+strconv.Itoa(n), n >= 0 && n <= mostPrio, func(q *api.Qos) { q.Prio = n })
		}
		for k := range maxQos {
			check("the name of "+strconv.Itoa(k), k == i, func(q *api.Qos) { q.Name = numbered(k) })
		}
		for _, s := range rightNames {
			check("the name "+s, s != numbered(0) || i == 0, func(q *api.Qos) { q.Name = s })
		}
		for _, s := range wrongNames {
			check("the name "+strconv.Quote(s), false, func(q *api.Qos) { q.Name = s })
		}
	}
	for count := range 300 {
		if c := config(chapters().Accounts, qualities(count)); quota.Right(c) != (count >= 1 && count <= maxQos) {
			t.Errorf("%d qualities: %v", count, quota.Right(c))
		}
		if c := config(roots(count), chapters().Qos); quota.Right(c) != (count >= 1 && count <= maxAccounts) {
			t.Errorf("%d accounts: %v", count, quota.Right(c))
		}
	}
}

// P15.1: Right of any configs.
func TestRightOfAny(t *testing.T) {
	d := dice(1)
	right := 0
	for range 20000 {
		if c := d.config(); !quota.Right(c) {
			t.Fatalf("%v: is not right", c)
		}
		c := d.wild()
		if quota.Right(c) != isRight(c) {
			t.Fatalf("%v: %v", c, !isRight(c))
		}
		if isRight(c) {
			right++
		}
	}
	if right < 4000 || right > 16000 {
		t.Errorf("the test is wrong: %d are right", right)
	}
}

// others are configs that are c, but for what is not asked here.
func others(c api.Config) []api.Config {
	all := []api.Config{c}
	for _, cores := range [][]int{{}, {4, 8}, {0}, {-1, 65}, make([]int, 100)} {
		for _, policy := range []api.Policy{0, api.Fifo, api.Easy, api.Conservative, 4, 255} {
			x := c
			x.Cores, x.Policy = cores, policy
			x.Parts = []api.Part{{Name: "Main", Nodes: math.MaxUint32, Prio: -1, MaxLimit: -1, Accounts: []string{"", "x", "x"}}}
			all = append(all, x)
			x.Parts = make([]api.Part, 9)
			all = append(all, x)
		}
	}
	return all
}

// The chapter's words: of a Config, Accounts and Qos are asked alone.
func TestOthersOfConfigAreNotAsked(t *testing.T) {
	jobs := of(running("phys", "normal", 2, 3))
	for i, c := range others(chapters()) {
		cores, e := quota.Cores(c, jobs, "all")
		used, n, f := quota.Qos(c, jobs, "normal")
		if !quota.Right(c) || cores != 6 || e != api.OK || used != 6 || n != 1 || f != api.OK || quota.May(c, jobs, spec("phys", "normal", 1, 2)) != api.OK || quota.May(c, jobs, spec("phys", "normal", 1, 3)) != api.ErrLimit {
			t.Errorf("%d: %v, %d, %d, %d, %d, %d", i, quota.Right(c), cores, e, used, n, f)
		}
	}
	for i, c := range others(config(chapters().Accounts, nil)) {
		if quota.Right(c) || quota.May(c, jobs, spec("phys", "normal", 1, 2)) != api.ErrArg {
			t.Errorf("%d: is right", i)
		}
	}
}

// anew is a copy of c that shares no list with it.
func anew(c api.Config) api.Config {
	c.Cores, c.Accounts, c.Qos, c.Parts = slices.Clone(c.Cores), slices.Clone(c.Accounts), slices.Clone(c.Qos), slices.Clone(c.Parts)
	return c
}
