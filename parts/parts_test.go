package parts_test

import (
	"math"
	"slices"
	"strconv"
	"strings"
	"testing"

	"muster/api"
	"muster/parts"
)

// The tests' own numbers, so that they don't lean on what they test.
const (
	maxName     = 16
	maxAccounts = 16
	maxQos      = 8
	maxParts    = 8
	maxAccess   = 8
	maxNodes    = 32
	maxCores    = 64
	mostPrio    = 1000
	mostLimit   = 1073741824 // 2^30, of accounts and qualities
	mostTime    = 1048576    // 2^20, of partitions
	letters     = "abcdefghijklmnopqrstuvwxyz"
	behind      = letters + "0123456789-_"
)

// root is an account without a parent and without a limit.
func root(name string) api.Account { return api.Account{Name: name, Limit: -1} }

// child is an account with a parent and without a limit.
func child(name, parent string) api.Account {
	return api.Account{Name: name, Parent: parent, Limit: -1}
}

// quality is one without limits.
func quality(name string) api.Qos { return api.Qos{Name: name, Limit: -1, Jobs: -1} }

// part is a partition without a priority.
func part(name string, nodes api.Set, most int64, accounts ...string) api.Part {
	return api.Part{Name: name, Nodes: nodes, MaxLimit: most, Accounts: accounts}
}

// of is the list of these elements.
func of[T any](l ...T) []T { return l }

// chapters is the config of the chapter's examples.
func chapters() api.Config {
	return api.Config{
		Cores:    of(4, 8),
		Parts:    of(part("main", 3, 100), part("big", 2, 100, "phys")),
		Accounts: of(root("all"), child("phys", "all"), child("bio", "all"), child("lab", "phys")),
		Qos:      of(quality("normal")),
		Policy:   api.Fifo,
	}
}

// numbered is the name of the i-th account, quality or partition of long lists.
func numbered(i int) string { return "a" + strconv.Itoa(i) }

// numberedAll are the names of the first n.
func numberedAll(n int) []string {
	var l []string
	for i := range n {
		l = append(l, numbered(i))
	}
	return l
}

// roots is n accounts without a parent.
func roots(n int) []api.Account {
	var l []api.Account
	for i := range n {
		l = append(l, root(numbered(i)))
	}
	return l
}

// qualities is n qualities.
func qualities(n int) []api.Qos {
	var l []api.Qos
	for i := range n {
		l = append(l, quality(numbered(i)))
	}
	return l
}

// partitions is n partitions of node 0.
func partitions(n int) []api.Part {
	var l []api.Part
	for i := range n {
		l = append(l, part(numbered(i), 1, 100))
	}
	return l
}

// equal is n nodes of as many cores.
func equal(n, cores int) []int { return slices.Repeat(of(cores), n) }

// great is a config with as much of all as may be, each partition upon all nodes and with half of the accounts.
func great() api.Config {
	c := api.Config{Cores: equal(maxNodes, maxCores), Parts: partitions(maxParts), Accounts: roots(maxAccounts), Qos: qualities(maxQos), Policy: api.Conservative}
	for i := range c.Parts {
		c.Parts[i] = api.Part{Name: numbered(i), Nodes: math.MaxUint32, Prio: mostPrio, MaxLimit: mostTime, Accounts: numberedAll(maxAccess)}
	}
	return c
}

// small is a config with as little of all as may be.
func small() api.Config {
	return api.Config{Cores: of(1), Parts: of(part("a", 1, 1)), Accounts: of(api.Account{Name: "a"}), Qos: of(api.Qos{Name: "a"}), Policy: api.Easy}
}

// anew is a copy of c that shares no list with it.
func anew(c api.Config) api.Config {
	c.Cores, c.Accounts, c.Qos, c.Parts = slices.Clone(c.Cores), slices.Clone(c.Accounts), slices.Clone(c.Qos), slices.Clone(c.Parts)
	for i := range c.Parts {
		c.Parts[i].Accounts = slices.Clone(c.Parts[i].Accounts)
	}
	return c
}

// isName asks each word of chapter 14 for itself, byte by byte.
func isName(s string) bool {
	if len(s) == 0 || len(s) >= maxName+1 || !strings.Contains(letters, s[:1]) {
		return false
	}
	for i := range len(s) {
		if strings.IndexByte(behind, s[i]) < 0 {
			return false
		}
	}
	return true
}

// isQuota tells whether n may be a limit of an account or a quality.
func isQuota(n int) bool { return n > -2 && n < mostLimit+1 }

// isTree asks each word of chapter 14 for itself.
func isTree(l []api.Account) bool {
	right := len(l) > 0 && len(l) <= maxAccounts
	for i, a := range l {
		right = right && isName(a.Name) && isQuota(a.Limit)
		hasParent := a.Parent == ""
		for k, b := range l {
			right = right && (k == i || b.Name != a.Name)
			hasParent = hasParent || k < i && b.Name == a.Parent
		}
		right = right && hasParent
	}
	return right
}

// areQualities asks each word of chapter 15 for itself.
func areQualities(l []api.Qos) bool {
	right := len(l) > 0 && len(l) <= maxQos
	for i, q := range l {
		right = right && isName(q.Name) && q.Prio > -1 && q.Prio < mostPrio+1 && isQuota(q.Limit) && isQuota(q.Jobs)
		for _, other := range l[:i] {
			right = right && other.Name != q.Name
		}
	}
	return right
}

// areCores asks each word of chapter 13 for itself.
func areCores(l []int) bool {
	right := len(l) > 0 && len(l) <= maxNodes
	for _, n := range l {
		right = right && n > 0 && n <= maxCores
	}
	return right
}

// hasAccount tells whether there is an account of that name.
func hasAccount(l []api.Account, name string) bool {
	return slices.ContainsFunc(l, func(a api.Account) bool { return a.Name == name })
}

// isPart asks each word of the chapter for itself, but for the names' being unlike.
func isPart(c api.Config, p api.Part) bool {
	right := isName(p.Name) && p.Nodes != 0 && p.Prio > -1 && p.Prio < mostPrio+1 && p.MaxLimit > 0 && p.MaxLimit < mostTime+1 && len(p.Accounts) < maxAccess+1
	for node := range 32 {
		right = right && (p.Nodes>>node&1 == 0 || node < len(c.Cores))
	}
	for i, name := range p.Accounts {
		right = right && hasAccount(c.Accounts, name)
		for _, other := range p.Accounts[:i] {
			right = right && other != name
		}
	}
	return right
}

// isRight is Right in plain words.
func isRight(c api.Config) bool {
	right := isTree(c.Accounts) && areQualities(c.Qos) && areCores(c.Cores) && c.Policy > 0 && c.Policy < 4 && len(c.Parts) > 0 && len(c.Parts) < maxParts+1
	for i, p := range c.Parts {
		right = right && isPart(c, p)
		for _, other := range c.Parts[:i] {
			right = right && other.Name != p.Name
		}
	}
	return right
}

// manyPrios are numbers that may be priorities, those just beside them, and others.
var manyPrios = []int{math.MinInt, -1000, -2, -1, 0, 1, 999, 1000, 1001, 1002, 1 << 16, 1 << 32, 1<<32 + 5, math.MaxInt}

// manyTimes are numbers that may be the MaxLimit of a partition, those just beside them, and others.
var manyTimes = []int64{math.MinInt64, -mostTime, -2, -1, 0, 1, 2, 100, mostTime - 1, mostTime, mostTime + 1, mostTime + 2, 1 << 31, 1 << 32, 1<<32 + 8, 1 << 40, math.MaxInt64}

// manyCores are numbers that may be cores of a node, those just beside them, and others.
var manyCores = []int{math.MinInt, -64, -2, -1, 0, 1, 2, 63, 64, 65, 66, 128, 256, 257, 1 << 32, 1<<32 + 8, math.MaxInt}

// rightNames are names.
var rightNames = []string{"a", "z", "a0", "a-", "a_", "z9-_", "normal", "abcdefghijklmno", "abcdefghijklmnop"}

// wrongNames are texts that are no names.
var wrongNames = []string{"", " ", "-", "_", "0", "0a", "-a", "_a", "A", "aB", "Normal", "a b", "a ", " a", "a.", "a\x00", "\x00", "é", "aé", "a\xff", "\xff", "abcdefghijklmnopq", "abcdefghijklmno.", "éééééééé"}

// rightConfigs are configs that are right.
func rightConfigs() map[string]api.Config {
	all := map[string]api.Config{"the chapter's": chapters(), "the most": great(), "the least": small()}
	with := func(name string, change func(c *api.Config)) {
		c := chapters()
		change(&c)
		all[name] = c
	}
	with("Fifo", func(c *api.Config) { c.Policy = 1 })
	with("Easy", func(c *api.Config) { c.Policy = 2 })
	with("Conservative", func(c *api.Config) { c.Policy = 3 })
	with("MaxParts", func(c *api.Config) { c.Parts = partitions(maxParts) })
	with("MaxParts less one", func(c *api.Config) { c.Parts = partitions(maxParts - 1) })
	with("one partition", func(c *api.Config) { c.Parts = c.Parts[:1] })
	with("names that begin alike", func(c *api.Config) { c.Parts[0].Name, c.Parts[1].Name = "mai", "main" })
	with("names unlike in the last byte", func(c *api.Config) { c.Parts[0].Name, c.Parts[1].Name = "abcdefghijklmnop", "abcdefghijklmnoq" })
	with("a partition named as an account and a quality", func(c *api.Config) { c.Parts[0].Name, c.Parts[1].Name = "phys", "normal" })
	with("partitions of the same nodes", func(c *api.Config) { c.Parts[1].Nodes = c.Parts[0].Nodes })
	with("a node of no partition", func(c *api.Config) { c.Parts[0].Nodes = 2 })
	with("node 0 alone", func(c *api.Config) { c.Parts[1].Nodes = 1 })
	with("one Prio for all", func(c *api.Config) { c.Parts[0].Prio, c.Parts[1].Prio = 5, 5 })
	with("all accounts", func(c *api.Config) { c.Parts[1].Accounts = of("lab", "bio", "phys", "all") })
	with("an account and its parent", func(c *api.Config) { c.Parts[1].Accounts = of("phys", "lab") })
	with("the same account in two partitions", func(c *api.Config) { c.Parts[0].Accounts = of("phys") })
	with("an empty list of accounts", func(c *api.Config) { c.Parts[1].Accounts = []string{} })
	with("cores of 1 and 64", func(c *api.Config) { c.Cores = of(1, 64) })
	with("32 nodes, the last alone", func(c *api.Config) { c.Cores, c.Parts[0].Nodes = equal(32, 1), 1<<31 })
	with("limits of 0", func(c *api.Config) { c.Accounts[1].Limit, c.Qos[0].Jobs = 0, 0 })
	return all
}

// wrongParts are what makes a partition of the chapter's config one that may not be.
func wrongParts() map[string]func(p *api.Part) {
	all := map[string]func(p *api.Part){
		"zero":                       func(p *api.Part) { *p = api.Part{} },
		"no nodes":                   func(p *api.Part) { p.Nodes = 0 },
		"just one node too many":     func(p *api.Part) { p.Nodes = 7 },
		"a node that is not told":    func(p *api.Part) { p.Nodes = 4 },
		"the last node of all":       func(p *api.Part) { p.Nodes = 1 << 31 },
		"all nodes of a set":         func(p *api.Part) { p.Nodes = math.MaxUint32 },
		"nine that are not there":    func(p *api.Part) { p.Accounts = of("x", "x", "x", "x", "x", "x", "x", "x", "x") },
		"no such account":            func(p *api.Part) { p.Accounts = of("x") },
		"no such account, last":      func(p *api.Part) { p.Accounts = of("bio", "lab", "x") },
		"no such account, first":     func(p *api.Part) { p.Accounts = of("x", "bio", "lab") },
		"an empty account":           func(p *api.Part) { p.Accounts = of("") },
		"an account in capitals":     func(p *api.Part) { p.Accounts = of("Phys") },
		"a quality for an account":   func(p *api.Part) { p.Accounts = of("normal") },
		"a partition for an account": func(p *api.Part) { p.Accounts = of("main") },
		"an account twice":           func(p *api.Part) { p.Accounts = of("bio", "bio") },
		"an account twice, apart":    func(p *api.Part) { p.Accounts = of("bio", "lab", "bio") },
		"an account twice, last":     func(p *api.Part) { p.Accounts = of("lab", "bio", "bio") },
		"an account eight times":     func(p *api.Part) { p.Accounts = slices.Repeat(of("bio"), 8) },
	}
	for _, s := range wrongNames {
		all["named "+strconv.Quote(s)] = func(p *api.Part) { p.Name = s }
	}
	for _, n := range of(math.MinInt, -1000, -2, -1, mostPrio+1, mostPrio+2, 1<<32, 1<<32+5, math.MaxInt) {
		all["a Prio of "+strconv.Itoa(n)] = func(p *api.Part) { p.Prio = n }
	}
	for _, n := range of[int64](math.MinInt64, -mostTime, -1, 0, mostTime+1, mostTime+2, 1<<31, 1<<32, 1<<32+8, 1<<40, math.MaxInt64) {
		all["a MaxLimit of "+strconv.FormatInt(n, 10)] = func(p *api.Part) { p.MaxLimit = n }
	}
	return all
}

// wrongChanges are what makes the chapter's config one that is not right, each for itself.
func wrongChanges() map[string]func(c *api.Config) {
	all := map[string]func(c *api.Config){
		"no parts":                      func(c *api.Config) { c.Parts = nil },
		"an empty list of parts":        func(c *api.Config) { c.Parts = []api.Part{} },
		"one part too many":             func(c *api.Config) { c.Parts = partitions(maxParts + 1) },
		"256 parts":                     func(c *api.Config) { c.Parts = partitions(256) },
		"two parts of one name":         func(c *api.Config) { c.Parts[1].Name = "main" },
		"two that are the same":         func(c *api.Config) { c.Parts[1] = c.Parts[0] },
		"two of one name, apart":        func(c *api.Config) { c.Parts = append(c.Parts, part("main", 1, 7)) },
		"the last two of one name":      func(c *api.Config) { c.Parts = append(c.Parts, part("big", 1, 7)) },
		"the first and the last":        func(c *api.Config) { c.Parts = append(partitions(maxParts-1), part(numbered(0), 1, 1)) },
		"the last two of MaxParts":      func(c *api.Config) { c.Parts = append(partitions(maxParts-1), part(numbered(maxParts-2), 1, 1)) },
		"no policy":                     func(c *api.Config) { c.Policy = 0 },
		"policy 4":                      func(c *api.Config) { c.Policy = 4 },
		"policy 255":                    func(c *api.Config) { c.Policy = 255 },
		"no cores":                      func(c *api.Config) { c.Cores = nil },
		"an empty list of cores":        func(c *api.Config) { c.Cores = []int{} },
		"one node too many":             func(c *api.Config) { c.Cores = equal(maxNodes+1, 8) },
		"a node of 0 cores":             func(c *api.Config) { c.Cores = of(4, 8, 0) },
		"a node of -1 cores":            func(c *api.Config) { c.Cores = of(-1, 8) },
		"a node of 65 cores":            func(c *api.Config) { c.Cores = of(4, 65) },
		"one node too few":              func(c *api.Config) { c.Cores = of(4) },
		"no accounts":                   func(c *api.Config) { c.Accounts, c.Parts[1].Accounts = nil, nil },
		"one account too many":          func(c *api.Config) { c.Accounts, c.Parts[1].Accounts = roots(maxAccounts+1), nil },
		"an account twice":              func(c *api.Config) { c.Accounts = append(c.Accounts, root("bio")) },
		"an account without its parent": func(c *api.Config) { c.Accounts[2].Parent = "x" },
		"an account's parent behind it": func(c *api.Config) { c.Accounts[1].Parent = "lab" },
		"an account's limit of -2":      func(c *api.Config) { c.Accounts[2].Limit = -2 },
		"an account's limit of 2^30+1":  func(c *api.Config) { c.Accounts[2].Limit = mostLimit + 1 },
		"an account that has no name":   func(c *api.Config) { c.Accounts[2].Name = "Bio" },
		"no qualities":                  func(c *api.Config) { c.Qos = nil },
		"one quality too many":          func(c *api.Config) { c.Qos = qualities(maxQos + 1) },
		"a quality twice":               func(c *api.Config) { c.Qos = of(quality("normal"), quality("normal")) },
		"a quality that has no name":    func(c *api.Config) { c.Qos[0].Name = "" },
		"a quality's Prio of 1001":      func(c *api.Config) { c.Qos[0].Prio = mostPrio + 1 },
		"a quality's Limit of -2":       func(c *api.Config) { c.Qos[0].Limit = -2 },
		"a quality's Jobs of 2^30+1":    func(c *api.Config) { c.Qos[0].Jobs = mostLimit + 1 },
		"nothing":                       func(c *api.Config) { *c = api.Config{} },
	}
	for name, change := range wrongParts() {
		all["the first part: "+name] = func(c *api.Config) { change(&c.Parts[0]) }
		all["the last part: "+name] = func(c *api.Config) { change(&c.Parts[1]) }
		all["a part between: "+name] = func(c *api.Config) {
			c.Parts = of(c.Parts[0], part("mid", 1, 1), c.Parts[1])
			change(&c.Parts[1])
		}
		all["the last of MaxParts: "+name] = func(c *api.Config) {
			c.Parts = partitions(maxParts)
			change(&c.Parts[maxParts-1])
		}
		all["the only part: "+name] = func(c *api.Config) {
			c.Parts = c.Parts[:1]
			change(&c.Parts[0])
		}
	}
	return all
}

// wrongConfigs are configs that are not right.
func wrongConfigs() map[string]api.Config {
	all := map[string]api.Config{}
	for name, change := range wrongChanges() {
		c := chapters()
		change(&c)
		all[name] = c
	}
	return all
}

// P16.1: Right, with each edge that the document names.
func TestRight(t *testing.T) {
	for name, c := range rightConfigs() {
		if !parts.Right(c) || !isRight(c) {
			t.Errorf("%s: is not right", name)
		}
	}
	for name, c := range wrongConfigs() {
		if parts.Right(c) || isRight(c) {
			t.Errorf("%s: is right", name)
		}
	}
}

// P16.1: Right of two faults at once: one does not hide the other.
func TestRightOfTwoFaults(t *testing.T) {
	changes := wrongChanges()
	for name, change := range changes {
		for _, other := range of("no policy", "no cores", "no qualities") {
			c := chapters()
			change(&c)
			changes[other](&c)
			if parts.Right(c) {
				t.Errorf("%s, %s: is right", name, other)
			}
		}
	}
}

// checkRight asks Right of c, of which it is told whether it is right.
func checkRight(t *testing.T, what string, c api.Config, want bool) {
	t.Helper()
	if parts.Right(c) != want || isRight(c) != want {
		t.Errorf("%s: %v", what, parts.Right(c))
	}
}

// P16.1: Right, with each number and each name in each partition.
func TestRightOfEachPart(t *testing.T) {
	for _, make := range of(great, func() api.Config {
		c := chapters()
		c.Parts = partitions(maxParts)
		return c
	}) {
		for i := range maxParts {
			check := func(what string, want bool, change func(p *api.Part)) {
				t.Helper()
				c := make()
				change(&c.Parts[i])
				checkRight(t, what+" in place "+strconv.Itoa(i), c, want)
			}
			for _, n := range manyPrios {
				check("a Prio of "+strconv.Itoa(n), n >= 0 && n <= mostPrio, func(p *api.Part) { p.Prio = n })
			}
			for _, n := range manyTimes {
				check("a MaxLimit of "+strconv.FormatInt(n, 10), n >= 1 && n <= mostTime, func(p *api.Part) { p.MaxLimit = n })
			}
			for k := range maxParts {
				check("the name of "+strconv.Itoa(k), k == i, func(p *api.Part) { p.Name = numbered(k) })
			}
			for _, s := range rightNames {
				check("the name "+s, s != numbered(0) || i == 0, func(p *api.Part) { p.Name = s })
			}
			for _, s := range wrongNames {
				check("the name "+strconv.Quote(s), false, func(p *api.Part) { p.Name = s })
			}
		}
	}
}

// P16.1: Right of each count of accounts of a partition, and of each that stands twice or is not there.
func TestRightOfPartsAccounts(t *testing.T) {
	for count := range maxAccounts + 1 {
		c := great()
		c.Parts[3].Accounts = numberedAll(count)
		checkRight(t, strconv.Itoa(count)+" accounts", c, count <= maxAccess)
	}
	for i := range maxAccess {
		for k := range maxAccounts {
			c := great()
			c.Parts[3].Accounts[i] = numbered(k)
			checkRight(t, "account "+strconv.Itoa(k)+" in place "+strconv.Itoa(i), c, k == i || k >= maxAccess)
		}
		for _, name := range of("", "x", "a", "A0", "a16", "a0 ", " a0", "a00", "\xff") {
			c := great()
			c.Parts[3].Accounts[i] = name
			checkRight(t, strconv.Quote(name)+" in place "+strconv.Itoa(i), c, false)
		}
	}
}

// P16.1: Right of each count of nodes, with a partition of each one node, and of all up to it.
func TestRightOfNodes(t *testing.T) {
	for count := range maxNodes + 3 {
		c := small()
		c.Cores = equal(count, 7)
		may := count >= 1 && count <= maxNodes
		checkRight(t, strconv.Itoa(count)+" nodes", c, may)
		for node := range maxNodes {
			c.Parts[0].Nodes = 1 << node
			checkRight(t, strconv.Itoa(count)+" nodes, of which "+strconv.Itoa(node), c, may && node < count)
			c.Parts[0].Nodes = 1<<(node+1) - 1
			checkRight(t, strconv.Itoa(count)+" nodes, of which all to "+strconv.Itoa(node), c, may && node < count)
			c.Parts[0].Nodes = math.MaxUint32 << node
			checkRight(t, strconv.Itoa(count)+" nodes, of which all from "+strconv.Itoa(node), c, count == maxNodes)
		}
		c.Parts[0].Nodes = 0
		checkRight(t, strconv.Itoa(count)+" nodes, none of them", c, false)
	}
}

// P16.1: Right of each number of cores in each place.
func TestRightOfCores(t *testing.T) {
	for i := range maxNodes {
		for _, n := range manyCores {
			c := great()
			c.Cores[i] = n
			checkRight(t, strconv.Itoa(n)+" cores of node "+strconv.Itoa(i), c, n >= 1 && n <= maxCores)
		}
	}
}

// P16.1: Right of each policy, and of each length of each list.
func TestRightOfPoliciesAndLengths(t *testing.T) {
	for policy := range 256 {
		c := chapters()
		c.Policy = api.Policy(policy)
		checkRight(t, "policy "+strconv.Itoa(policy), c, policy >= 1 && policy <= 3)
	}
	for count := range 300 {
		a, b, c, d := small(), small(), small(), small()
		a.Parts, b.Accounts, c.Qos, d.Cores = partitions(count), roots(count), qualities(count), equal(count, 1)
		checkRight(t, strconv.Itoa(count)+" partitions", a, count >= 1 && count <= maxParts)
		checkRight(t, strconv.Itoa(count)+" accounts", b, count >= 1 && count <= maxAccounts)
		checkRight(t, strconv.Itoa(count)+" qualities", c, count >= 1 && count <= maxQos)
		checkRight(t, strconv.Itoa(count)+" nodes", d, count >= 1 && count <= maxNodes)
	}
}

// P16.1: Right of any configs.
func TestRightOfAny(t *testing.T) {
	d := dice(1)
	right := 0
	for range 20000 {
		if c := d.config(); !parts.Right(c) || !isRight(c) {
			t.Fatalf("%v: is not right", c)
		}
		c := d.wild()
		if parts.Right(c) != isRight(c) {
			t.Fatalf("%v: %v", c, !isRight(c))
		}
		if isRight(c) {
			right++
		}
	}
	if right < 4000 || right > 16000 {
		t.Errorf("the test is wrong: %d are right", right)
	}
}
