package resv_test

import (
	"math"
	"slices"
	"strconv"
	"strings"
	"testing"

	"muster/api"
	"muster/parts"
	"muster/resv"
)

// The tests' own numbers, so that they don't lean on what they test.
const (
	maxName     = 16
	maxAccounts = 16
	maxAccess   = 8
	maxNodes    = 32
	maxResvs    = 16
	maxTime     = 1099511627776 // 2^40
	letters     = "abcdefghijklmnopqrstuvwxyz"
	behind      = letters + "0123456789-_"
)

// of is the list of these elements.
func of[T any](l ...T) []T { return l }

// root is an account without a parent and without a limit.
func root(name string) api.Account { return api.Account{Name: name, Limit: -1} }

// child is an account with a parent and without a limit.
func child(name, parent string) api.Account {
	return api.Account{Name: name, Parent: parent, Limit: -1}
}

// held is a reservation.
func held(name string, nodes api.Set, from, to int64, accounts ...string) api.Resv {
	return api.Resv{Name: name, Nodes: nodes, From: from, To: to, Accounts: accounts}
}

// chapters is a config in which all examples of the chapter can stand.
func chapters() api.Config {
	return api.Config{
		Cores:    of(4, 8),
		Parts:    of(api.Part{Name: "main", Nodes: 3, MaxLimit: 100}),
		Accounts: of(root("all"), child("phys", "all"), child("bio", "all"), child("lab", "phys")),
		Qos:      of(api.Qos{Name: "normal", Limit: -1, Jobs: -1}),
		Policy:   api.Fifo,
	}
}

// x is the chapter's reservation.
func x() api.Resv { return held("x", 2, 10, 20, "phys") }

// numbered is the name of the i-th of long lists; the names rise with i, up to 99.
func numbered(i int) string { return "a" + strconv.Itoa(i/10) + strconv.Itoa(i%10) }

// numberedAll are the names of the first n.
func numberedAll(n int) []string {
	var l []string
	for i := range n {
		l = append(l, numbered(i))
	}
	return l
}

// great is a config with as many nodes and accounts as may be.
func great() api.Config {
	c := chapters()
	c.Cores, c.Accounts = slices.Repeat(of(64), maxNodes), nil
	for _, name := range numberedAll(maxAccounts) {
		c.Accounts = append(c.Accounts, root(name))
	}
	return c
}

// row is n reservations of node 0 that touch each other, each ten ticks long.
func row(n int, account string) []api.Resv {
	var l []api.Resv
	for i := range n {
		l = append(l, held(numbered(i), 1, int64(10*i), int64(10*i+10), account))
	}
	return l
}

// isName asks each word of chapter 14 for itself, byte by byte.
func isName(s string) bool {
	if len(s) == 0 || len(s) >= maxName+1 || !strings.Contains(letters, s[:1]) {
		return false
	}
	for i := range len(s) {
		if strings.IndexByte(behind, s[i]) < 0 {
			return false
		}
	}
	return true
}

// hasAccount tells whether there is an account of that name.
func hasAccount(l []api.Account, name string) bool {
	return slices.ContainsFunc(l, func(a api.Account) bool { return a.Name == name })
}

// may asks each word of the chapter for itself.
func may(c api.Config, r api.Resv) bool {
	is := isName(r.Name) && r.Nodes != 0 && r.From > -1 && r.To > r.From && r.To < maxTime+1 && len(r.Accounts) > 0 && len(r.Accounts) < maxAccess+1
	for node := range 32 {
		is = is && (r.Nodes>>node&1 == 0 || node < len(c.Cores))
	}
	for i, name := range r.Accounts {
		is = is && hasAccount(c.Accounts, name)
		for _, other := range r.Accounts[:i] {
			is = is && other != name
		}
	}
	return is
}

// holds tells whether that moment is one from from on, below to.
func holds(from, to, moment int64) bool { return moment >= from && moment < to }

// sharesTime tells whether two windows have a moment in common; if so, the beginning of one of them is such.
func sharesTime(from, to, other, end int64) bool {
	for _, moment := range of(from, other) {
		if holds(from, to, moment) && holds(other, end, moment) {
			return true
		}
	}
	return false
}

// sharesNode tells whether two sets have a node in common.
func sharesNode(a, b api.Set) bool {
	for node := range 32 {
		if a>>node&1 == 1 && b>>node&1 == 1 {
			return true
		}
	}
	return false
}

// clashOf tells whether two clash.
func clashOf(a, b api.Resv) bool {
	return sharesNode(a.Nodes, b.Nodes) && sharesTime(a.From, a.To, b.From, b.To)
}

// isRight is Right in plain words; what a right config is, is the layer's below.
func isRight(c api.Config, l []api.Resv) bool {
	right := parts.Right(c) && len(l) < maxResvs+1
	for i, r := range l {
		right = right && may(c, r)
		for _, ahead := range l[:i] {
			right = right && strings.Compare(ahead.Name, r.Name) < 0 && !clashOf(ahead, r)
		}
	}
	return right
}

// sameResv tells whether a and b are the same; an empty list of accounts is as none.
func sameResv(a, b api.Resv) bool {
	return a.Name == b.Name && a.Nodes == b.Nodes && a.From == b.From && a.To == b.To && slices.Equal(a.Accounts, b.Accounts)
}

// same tells whether both lists are the same, element by element.
func same(a, b []api.Resv) bool { return slices.EqualFunc(a, b, sameResv) }

// anew is a copy of l that shares no list with it.
func anew(l []api.Resv) []api.Resv {
	var all []api.Resv
	for _, r := range l {
		r.Accounts = append(of[string](), r.Accounts...)
		all = append(all, r)
	}
	return all
}

// rightNames are names.
var rightNames = []string{"a", "z", "a0", "a-", "a_", "z9-_", "maint", "abcdefghijklmno", "abcdefghijklmnop"}

// wrongNames are texts that are no names.
var wrongNames = []string{"", " ", "-", "_", "0", "0a", "-a", "_a", "A", "aB", "Maint", "a b", "a ", " a", "a.", "a\x00", "\x00", "é", "aé", "a\xff", "\xff", "abcdefghijklmnopq", "abcdefghijklmno.", "éééééééé"}

// rightResvs are what may be a reservation of the chapter's config, each made of x.
func rightResvs() map[string]func(r *api.Resv) {
	all := map[string]func(r *api.Resv){
		"as it is":                  func(r *api.Resv) {},
		"node 0":                    func(r *api.Resv) { r.Nodes = 1 },
		"both nodes":                func(r *api.Resv) { r.Nodes = 3 },
		"From 0":                    func(r *api.Resv) { r.From = 0 },
		"one tick":                  func(r *api.Resv) { r.From = 19 },
		"the first tick":            func(r *api.Resv) { r.From, r.To = 0, 1 },
		"To one below MaxTime":      func(r *api.Resv) { r.To = maxTime - 1 },
		"To MaxTime":                func(r *api.Resv) { r.To = maxTime },
		"the last tick":             func(r *api.Resv) { r.From, r.To = maxTime-1, maxTime },
		"all time":                  func(r *api.Resv) { r.From, r.To = 0, maxTime },
		"an account and its parent": func(r *api.Resv) { r.Accounts = of("lab", "phys") },
		"all accounts":              func(r *api.Resv) { r.Accounts = of("lab", "all", "bio", "phys") },
		"named as an account":       func(r *api.Resv) { r.Name = "phys" },
		"named as the partition":    func(r *api.Resv) { r.Name = "main" },
	}
	for _, s := range rightNames {
		all["named "+s] = func(r *api.Resv) { r.Name = s }
	}
	return all
}

// wrongResvs are what may be no reservation of the chapter's config, each made of x.
func wrongResvs() map[string]func(r *api.Resv) {
	all := map[string]func(r *api.Resv){
		"zero":                       func(r *api.Resv) { *r = api.Resv{} },
		"no nodes":                   func(r *api.Resv) { r.Nodes = 0 },
		"a node that is not told":    func(r *api.Resv) { r.Nodes = 4 },
		"just one node too many":     func(r *api.Resv) { r.Nodes = 7 },
		"the last node of all":       func(r *api.Resv) { r.Nodes = 1 << 31 },
		"all nodes of a set":         func(r *api.Resv) { r.Nodes = math.MaxUint32 },
		"From -1":                    func(r *api.Resv) { r.From = -1 },
		"From the least":             func(r *api.Resv) { r.From = math.MinInt64 },
		"From at To":                 func(r *api.Resv) { r.From = 20 },
		"From one above To":          func(r *api.Resv) { r.From = 21 },
		"From far above To":          func(r *api.Resv) { r.From = math.MaxInt64 },
		"From and To 0":              func(r *api.Resv) { r.From, r.To = 0, 0 },
		"From and To MaxTime":        func(r *api.Resv) { r.From, r.To = maxTime, maxTime },
		"both below 0":               func(r *api.Resv) { r.From, r.To = -9, -3 },
		"To below 0":                 func(r *api.Resv) { r.From, r.To = 0, -1 },
		"To MaxTime and one":         func(r *api.Resv) { r.To = maxTime + 1 },
		"From MaxTime, To one more":  func(r *api.Resv) { r.From, r.To = maxTime, maxTime+1 },
		"To 2^41":                    func(r *api.Resv) { r.To = 2 * maxTime },
		"To the most":                func(r *api.Resv) { r.To = math.MaxInt64 },
		"no accounts":                func(r *api.Resv) { r.Accounts = nil },
		"an empty list of accounts":  func(r *api.Resv) { r.Accounts = of[string]() },
		"no such account":            func(r *api.Resv) { r.Accounts = of("x") },
		"no such account, last":      func(r *api.Resv) { r.Accounts = of("bio", "lab", "x") },
		"no such account, first":     func(r *api.Resv) { r.Accounts = of("x", "bio", "lab") },
		"an empty account":           func(r *api.Resv) { r.Accounts = of("") },
		"an account in capitals":     func(r *api.Resv) { r.Accounts = of("Phys") },
		"a quality for an account":   func(r *api.Resv) { r.Accounts = of("normal") },
		"a partition for an account": func(r *api.Resv) { r.Accounts = of("main") },
		"an account twice":           func(r *api.Resv) { r.Accounts = of("bio", "bio") },
		"an account twice, apart":    func(r *api.Resv) { r.Accounts = of("bio", "lab", "bio") },
		"an account twice, last":     func(r *api.Resv) { r.Accounts = of("lab", "bio", "bio") },
		"an account eight times":     func(r *api.Resv) { r.Accounts = slices.Repeat(of("bio"), 8) },
	}
	for _, s := range wrongNames {
		all["named "+strconv.Quote(s)] = func(r *api.Resv) { r.Name = s }
	}
	return all
}

// wrongConfigs are configs that are not right, each but for one thing the chapter's.
func wrongConfigs() map[string]api.Config {
	all := map[string]api.Config{}
	for name, change := range map[string]func(c *api.Config){
		"nothing":                     func(c *api.Config) { *c = api.Config{} },
		"no policy":                   func(c *api.Config) { c.Policy = 0 },
		"policy 4":                    func(c *api.Config) { c.Policy = 4 },
		"no cores":                    func(c *api.Config) { c.Cores = nil },
		"a node of 0 cores":           func(c *api.Config) { c.Cores = of(4, 8, 0) },
		"a node of 65 cores":          func(c *api.Config) { c.Cores = of(4, 65) },
		"one node too many":           func(c *api.Config) { c.Cores = slices.Repeat(of(1), maxNodes+1) },
		"no partition":                func(c *api.Config) { c.Parts = nil },
		"a partition without a node":  func(c *api.Config) { c.Parts[0].Nodes = 0 },
		"a partition without a limit": func(c *api.Config) { c.Parts[0].MaxLimit = 0 },
		"no accounts":                 func(c *api.Config) { c.Accounts = nil },
		"an account twice":            func(c *api.Config) { c.Accounts = append(c.Accounts, root("bio")) },
		"a limit of -2":               func(c *api.Config) { c.Accounts[2].Limit = -2 },
		"a parent that is not there":  func(c *api.Config) { c.Accounts[3].Parent = "x" },
		"no quality":                  func(c *api.Config) { c.Qos = nil },
		"a quality's Prio of 1001":    func(c *api.Config) { c.Qos[0].Prio = 1001 },
	} {
		c := chapters()
		change(&c)
		all[name] = c
	}
	return all
}

// rightLists are right lists of the chapter's config.
func rightLists() map[string][]api.Resv {
	return map[string][]api.Resv{
		"none":                            nil,
		"empty":                           {},
		"one":                             of(x()),
		"they touch":                      of(held("a", 2, 20, 30, "bio"), x()),
		"they touch at both ends":         of(held("a", 2, 20, 30, "bio"), held("b", 2, 9, 10, "bio"), x()),
		"other nodes at one time":         of(held("a", 1, 0, 99, "bio"), x()),
		"other nodes at just that time":   of(held("a", 1, 10, 20, "phys"), x()),
		"far apart":                       of(held("a", 3, 0, 5, "bio"), held("b", 3, maxTime-1, maxTime, "bio"), x()),
		"the later stands ahead":          of(held("a", 3, 90, 95, "bio"), held("b", 3, 30, 40, "bio"), x()),
		"MaxResvs less one":               row(maxResvs-1, "bio"),
		"MaxResvs":                        row(maxResvs, "bio"),
		"names that begin alike":          of(held("a", 1, 0, 1, "bio"), held("a-", 1, 1, 2, "bio"), held("a0", 1, 2, 3, "bio"), held("a_", 1, 3, 4, "bio"), held("aa", 1, 4, 5, "bio"), held("b", 1, 5, 6, "bio")),
		"names rise by bytes, not digits": of(held("a10", 1, 0, 1, "bio"), held("a2", 1, 1, 2, "bio")),
		"unlike in the last byte":         of(held("abcdefghijklmnop", 1, 0, 1, "bio"), held("abcdefghijklmnoq", 1, 1, 2, "bio")),
	}
}

// wrongLists are lists of the chapter's config that are not right.
func wrongLists() map[string][]api.Resv {
	all := map[string][]api.Resv{
		"one too many":                  row(maxResvs+1, "bio"),
		"twice as many":                 row(2*maxResvs, "bio"),
		"many":                          slices.Repeat(row(maxResvs, "bio"), 300),
		"two of one name":               of(x(), held("x", 1, 50, 60, "bio")),
		"the same twice":                of(x(), x()),
		"two of one name, apart":        of(x(), held("y", 1, 0, 1, "bio"), held("x", 1, 50, 60, "bio")),
		"the last two of one name":      of(held("a", 1, 0, 1, "bio"), x(), held("x", 1, 50, 60, "bio")),
		"names that fall":               of(x(), held("a", 1, 50, 60, "bio")),
		"the last falls":                of(held("a", 1, 0, 1, "bio"), x(), held("b", 1, 50, 60, "bio")),
		"the first falls":               of(held("b", 1, 0, 1, "bio"), held("a", 1, 5, 6, "bio"), x()),
		"they rise by digits":           of(held("a2", 1, 0, 1, "bio"), held("a10", 1, 1, 2, "bio")),
		"a longer one stands ahead":     of(held("aa", 1, 0, 1, "bio"), held("a", 1, 1, 2, "bio")),
		"clash by the last moment":      of(held("a", 2, 19, 30, "bio"), x()),
		"clash by the first moment":     of(held("a", 2, 0, 11, "bio"), x()),
		"clash by one of two nodes":     of(held("a", 3, 19, 30, "bio"), x()),
		"clash in the midst":            of(held("a", 2, 14, 15, "bio"), x()),
		"clash all around":              of(held("a", 2, 0, maxTime, "bio"), x()),
		"clash by the same window":      of(held("a", 2, 10, 20, "phys"), x()),
		"clash for the same account":    of(held("a", 2, 15, 25, "phys"), x()),
		"the first and the last clash":  of(held("a", 2, 19, 30, "bio"), held("b", 1, 0, 99, "bio"), x()),
		"the last two clash":            of(held("a", 1, 0, 99, "bio"), held("b", 2, 0, 11, "bio"), x()),
		"the first two clash":           of(held("a", 1, 0, 99, "bio"), held("b", 1, 98, 100, "bio"), x()),
		"the last of MaxResvs clashes":  append(row(maxResvs-1, "bio"), held("z", 1, 0, 1, "bio")),
		"the first of MaxResvs clashes": append(of(held("a", 1, 149, 160, "bio")), row(maxResvs, "bio")[1:]...),
	}
	for name, change := range wrongResvs() {
		for place := range 3 {
			l := of(held("a", 1, 0, 5, "bio"), held("m", 1, 5, 9, "bio"), held("z", 1, 9, 15, "bio"))
			old := l[place]
			l[place] = x()
			l[place].Name = old.Name
			change(&l[place])
			all[name+", in place "+strconv.Itoa(place)] = l
		}
		alone := x()
		change(&alone)
		all[name+", alone"] = of(alone)
	}
	return all
}

// checkRight asks Right, of which it is told what it answers.
func checkRight(t *testing.T, what string, c api.Config, l []api.Resv, want bool) {
	t.Helper()
	for range 2 {
		if is := resv.Right(c, l); is != want {
			t.Errorf("%s: %v", what, is)
		}
	}
	if is := isRight(c, l); is != want {
		t.Errorf("%s: the test is wrong: %v", what, is)
	}
}

// P17.1: Right, with each edge that the document names.
func TestRight(t *testing.T) {
	for name, l := range rightLists() {
		checkRight(t, name, chapters(), l, true)
		for fault, c := range wrongConfigs() {
			checkRight(t, name+"; "+fault, c, l, false)
		}
	}
	for name, l := range wrongLists() {
		checkRight(t, name, chapters(), l, false)
	}
	for name, change := range rightResvs() {
		r := x()
		change(&r)
		checkRight(t, name, chapters(), of(r), true)
	}
}

// P17.1: Right with each count of accounts, each that stands twice, and each that is not there.
func TestRightOfAccounts(t *testing.T) {
	c := great()
	for count := range maxAccounts + 1 {
		checkRight(t, strconv.Itoa(count)+" accounts", c, of(held("r", 1, 0, 1, numberedAll(count)...)), count >= 1 && count <= maxAccess)
	}
	checkRight(t, "the last eight", c, of(held("r", 1, 0, 1, numberedAll(maxAccounts)[maxAccess:]...)), true)
	for place := range maxAccess {
		for k := range maxAccounts {
			names := numberedAll(maxAccess)
			names[place] = numbered(k)
			checkRight(t, "account "+strconv.Itoa(k)+" in place "+strconv.Itoa(place), c, of(held("r", 1, 0, 1, names...)), k == place || k >= maxAccess)
		}
		for _, name := range of("", "x", "a", "A00", "a16", "a00 ", " a00", "\xff") {
			names := numberedAll(maxAccess)
			names[place] = name
			checkRight(t, strconv.Quote(name)+" in place "+strconv.Itoa(place), c, of(held("r", 1, 0, 1, names...)), false)
		}
	}
}

// P17.1: Right with each count of nodes, and reservations of each one node, and of all up to it.
func TestRightOfNodes(t *testing.T) {
	for count := 1; count <= maxNodes; count++ {
		c := great()
		c.Cores = c.Cores[:count]
		c.Parts[0].Nodes = 1
		for node := range maxNodes {
			what := strconv.Itoa(count) + " nodes, node " + strconv.Itoa(node)
			checkRight(t, what, c, of(held("r", 1<<node, 0, 1, numbered(0))), node < count)
			checkRight(t, "all up to it: "+what, c, of(held("r", 1<<(node+1)-1, 0, 1, numbered(0))), node < count)
			checkRight(t, "all from it on: "+what, c, of(held("r", math.MaxUint32<<node, 0, 1, numbered(0))), count == maxNodes)
		}
	}
}

// P17.1: Right of two that clash, or do not, by each two nodes and by each two windows of a short time.
func TestRightOfClashes(t *testing.T) {
	for a := range maxNodes {
		for b := range maxNodes {
			l := of(held("a", 1<<a, 5, 9, numbered(0)), held("b", 1<<b, 8, 12, numbered(0)))
			checkRight(t, "nodes "+strconv.Itoa(a)+" and "+strconv.Itoa(b), great(), l, a != b)
		}
	}
	for _, from := range of[int64](0, 3, maxTime-7) {
		for begin := range int64(7) {
			for end := begin + 1; end <= 7; end++ {
				l := of(held("a", 2, from+begin, from+end, "bio"), held("b", 2, from+2, from+5, "bio"))
				checkRight(t, strconv.Itoa(int(begin))+" to "+strconv.Itoa(int(end)), chapters(), l, end <= 2 || begin >= 5)
				l[0].Nodes = 1
				checkRight(t, "other nodes", chapters(), l, true)
			}
		}
	}
}

// P17.1: Right of each length of a list, and with each two of a full one exchanged or made alike.
func TestRightOfLengthsAndOrder(t *testing.T) {
	for count := range 100 {
		checkRight(t, strconv.Itoa(count)+" of them", chapters(), row(count, "bio"), count <= maxResvs)
	}
	for i := range maxResvs {
		for k := range i {
			l := row(maxResvs, "bio")
			l[i], l[k] = l[k], l[i]
			checkRight(t, strconv.Itoa(i)+" and "+strconv.Itoa(k)+" exchanged", chapters(), l, false)
			l[i].Name, l[k].Name = l[k].Name, l[i].Name
			checkRight(t, "their windows alone", chapters(), l, true)
			l[i].Name = l[k].Name
			checkRight(t, "of one name", chapters(), l, false)
			l = row(maxResvs, "bio")
			l[i].From, l[i].To = l[k].To-1, l[k].To
			checkRight(t, strconv.Itoa(i)+" clashes with "+strconv.Itoa(k), chapters(), l, false)
		}
	}
}

// P17.1: Right of any configs and lists.
func TestRightOfAny(t *testing.T) {
	d := dice(1)
	right := 0
	for range 20000 {
		c := d.config()
		if l := d.resvs(c, maxResvs); !resv.Right(c, l) || !isRight(c, l) {
			t.Fatalf("%v, %v: is not right", c, l)
		}
		l := d.wild(c)
		want := isRight(c, l)
		if resv.Right(c, l) != want {
			t.Fatalf("%v, %v: %v", c, l, !want)
		}
		if want {
			right++
		}
	}
	if right < 4000 || right > 16000 {
		t.Errorf("the test is wrong: %d are right", right)
	}
}
