package parts_test

import (
	"math"
	"slices"
	"strconv"
	"testing"

	"muster/api"
	"muster/parts"
)

// hasQuality tells whether there is a quality of that name.
func hasQuality(l []api.Qos, name string) bool {
	return slices.ContainsFunc(l, func(q api.Qos) bool { return q.Name == name })
}

// nodesOf is how many of these nodes have as many cores.
func nodesOf(c api.Config, nodes api.Set, cores int) int {
	n := 0
	for i, has := range c.Cores {
		if i < 32 && nodes>>i&1 == 1 && has >= cores {
			n++
		}
	}
	return n
}

// checkOf is Check in plain words.
func checkOf(c api.Config, s api.Spec) api.Errno {
	at, has := findOf(c.Parts, s.Part)
	switch {
	case !isRight(c):
		return api.ErrConfig
	case !isName(s.User) || s.Nodes < 1 || s.Nodes > maxNodes || s.Cores < 1 || s.Cores > maxCores || s.Limit < 1:
		return api.ErrArg
	case !has || !hasAccount(c.Accounts, s.Account) || !hasQuality(c.Qos, s.Qos):
		return api.ErrName
	case !admitsOf(c.Accounts, c.Parts[at].Accounts, s.Account):
		return api.ErrAccess
	case s.Limit > c.Parts[at].MaxLimit || nodesOf(c, c.Parts[at].Nodes, s.Cores) < s.Nodes:
		return api.ErrLimit
	}
	return api.OK
}

// spec is what a job asks for in the chapter's config.
func spec(part, account string, nodes, cores int, limit int64) api.Spec {
	return api.Spec{User: "ann", Account: account, Qos: "normal", Part: part, Nodes: nodes, Cores: cores, Limit: limit}
}

// plain is one that the chapter's config lets in.
func plain() api.Spec { return spec("main", "bio", 1, 1, 1) }

// checkCheck asks Check, of which it is told what it answers.
func checkCheck(t *testing.T, what string, c api.Config, s api.Spec, want api.Errno) {
	t.Helper()
	for range 2 {
		if e := parts.Check(c, s); e != want {
			t.Errorf("%s: %d, not %d", what, e, want)
		}
	}
	if e := checkOf(c, s); e != want {
		t.Errorf("%s: the test is wrong: %d, not %d", what, e, want)
	}
}

// P16.2: the chapter's examples.
func TestChaptersCheck(t *testing.T) {
	for name, x := range map[string]struct {
		s    api.Spec
		want api.Errno
	}{
		"2 nodes, 4 cores":     {spec("main", "bio", 2, 4, 100), api.OK},
		"2 nodes, 5 cores":     {spec("main", "bio", 2, 5, 100), api.ErrLimit},
		"101 long":             {spec("main", "bio", 2, 4, 101), api.ErrLimit},
		"big for lab":          {spec("big", "lab", 1, 8, 100), api.OK},
		"big for bio":          {spec("big", "bio", 1, 8, 100), api.ErrAccess},
		"partition x":          {spec("x", "bio", 2, 4, 100), api.ErrName},
		"0 nodes":              {spec("main", "bio", 0, 4, 100), api.ErrArg},
		"big for phys":         {spec("big", "phys", 1, 8, 100), api.OK},
		"big for all":          {spec("big", "all", 1, 8, 100), api.ErrAccess},
		"big, 2 nodes":         {spec("big", "lab", 2, 4, 100), api.ErrLimit},
		"big, 9 cores":         {spec("big", "lab", 1, 9, 100), api.ErrLimit},
		"main, 1 node, 8":      {spec("main", "bio", 1, 8, 100), api.OK},
		"main, 1 node, 9":      {spec("main", "bio", 1, 9, 100), api.ErrLimit},
		"main, 3 nodes":        {spec("main", "bio", 3, 1, 100), api.ErrLimit},
		"main for each":        {spec("main", "all", 2, 4, 1), api.OK},
		"main, all at its end": {spec("main", "lab", 2, 4, 100), api.OK},
	} {
		checkCheck(t, name, chapters(), x.s, x.want)
	}
}

// P16.2: ErrArg: users that are names and that are none, and each number at its edges.
func TestCheckOfArguments(t *testing.T) {
	check := func(what string, want api.Errno, change func(s *api.Spec)) {
		t.Helper()
		s := spec(numbered(0), numbered(0), 1, 1, 1)
		s.Qos = numbered(0)
		change(&s)
		checkCheck(t, what, great(), s, want)
	}
	isArg := func(may bool) api.Errno {
		if may {
			return api.OK
		}
		return api.ErrArg
	}
	for _, name := range rightNames {
		check("the user "+name, api.OK, func(s *api.Spec) { s.User = name })
	}
	for _, name := range wrongNames {
		check("the user "+strconv.Quote(name), api.ErrArg, func(s *api.Spec) { s.User = name })
	}
	for _, n := range of(math.MinInt, -32, -2, -1, 0, 1, 2, 31, 32, 33, 34, 64, 256, 257, 1<<32, 1<<32+1, math.MaxInt) {
		check(strconv.Itoa(n)+" nodes", isArg(n >= 1 && n <= maxNodes), func(s *api.Spec) { s.Nodes = n })
	}
	for _, n := range manyCores {
		check(strconv.Itoa(n)+" cores", isArg(n >= 1 && n <= maxCores), func(s *api.Spec) { s.Cores = n })
	}
	for _, n := range manyTimes {
		want := isArg(n >= 1)
		if n > mostTime {
			want = api.ErrLimit
		}
		check(strconv.FormatInt(n, 10)+" long", want, func(s *api.Spec) { s.Limit = n })
	}
	check("the most of all", api.OK, func(s *api.Spec) { s.Nodes, s.Cores, s.Limit = maxNodes, maxCores, mostTime })
	check("a zero spec", api.ErrArg, func(s *api.Spec) { *s = api.Spec{} })
}

// P16.2: ErrName: partitions, accounts and qualities that are not there, each for itself.
func TestCheckOfNames(t *testing.T) {
	c := chapters()
	c.Qos = of(quality("normal"), quality("high"))
	set := map[string]func(s *api.Spec, name string){
		"partition": func(s *api.Spec, name string) { s.Part = name },
		"account":   func(s *api.Spec, name string) { s.Account = name },
		"quality":   func(s *api.Spec, name string) { s.Qos = name },
	}
	there := map[string][]string{
		"partition": of("main"),
		"account":   of("all", "phys", "bio", "lab"),
		"quality":   of("normal", "high"),
	}
	for kind, put := range set {
		for _, name := range of("main", "all", "phys", "bio", "lab", "normal", "high", "x", "", "ann", "Main", "Bio", "Normal", "mai", "bi", "norma", "main ", "bioo", "\xff") {
			want := api.ErrName
			if slices.Contains(there[kind], name) {
				want = api.OK
			}
			s := plain()
			put(&s, name)
			checkCheck(t, kind+" "+strconv.Quote(name), c, s, want)
		}
	}
	for i := range maxParts {
		c := great()
		for k := range maxAccess {
			s := spec(numbered(i), numbered(k), 1, 1, 1)
			s.Qos = numbered(k)
			checkCheck(t, numbered(i)+" for "+numbered(k), c, s, api.OK)
		}
	}
}

// P16.2: ErrAccess: accounts on the path, above, below and beside those that may use the partition.
func TestCheckOfAccess(t *testing.T) {
	c := chapters()
	c.Accounts = forest()
	for name, x := range map[string]struct {
		who  []string
		lets []string
	}{
		"none":                {nil, of("r", "s", "b", "a", "c", "e", "g", "h")},
		"an empty list":       {[]string{}, of("r", "s", "b", "a", "c", "e", "g", "h")},
		"a root":              {of("r"), of("r", "a", "c", "e", "g", "h")},
		"the other root":      {of("s"), of("s", "b")},
		"one between":         {of("a"), of("a", "e", "g", "h")},
		"one further down":    {of("e"), of("e", "h")},
		"the lowest":          {of("h"), of("h")},
		"two apart":           {of("b", "e"), of("b", "e", "h")},
		"one below the other": {of("e", "a"), of("a", "e", "g", "h")},
		"both roots":          {of("r", "s"), of("r", "s", "b", "a", "c", "e", "g", "h")},
		"all":                 {of("r", "s", "b", "a", "c", "e", "g", "h"), of("r", "s", "b", "a", "c", "e", "g", "h")},
	} {
		c.Parts = of(part("main", 3, 100), part("big", 3, 100, x.who...), part("other", 3, 100, "c"))
		for _, a := range c.Accounts {
			want := api.ErrAccess
			if slices.Contains(x.lets, a.Name) {
				want = api.OK
			}
			checkCheck(t, name+", for "+a.Name, c, spec("big", a.Name, 2, 4, 100), want)
			checkCheck(t, "no one is named, for "+a.Name, c, spec("main", a.Name, 2, 4, 100), api.OK)
		}
	}
}

// P16.2: ErrLimit: each partition's own MaxLimit, at its edges.
func TestCheckOfTimes(t *testing.T) {
	for _, most := range of[int64](1, 2, 99, 100, 101, mostTime-1, mostTime) {
		c := chapters()
		c.Parts = of(part("a", 3, 50), part("b", 3, most), part("c", 3, mostTime))
		for name, want := range map[string]int64{"a": 50, "b": most, "c": mostTime} {
			for _, limit := range of(1, want-1, want, want+1, want+2, 1<<32+1, math.MaxInt64) {
				err := api.OK
				switch {
				case limit < 1:
					err = api.ErrArg
				case limit > want:
					err = api.ErrLimit
				}
				checkCheck(t, name+" up to "+strconv.FormatInt(want, 10)+", "+strconv.FormatInt(limit, 10)+" long", c, spec(name, "bio", 1, 1, limit), err)
			}
		}
	}
}

// P16.2: ErrLimit: nodes of the partition that are just enough and one too few, of as many cores as asked and of one less.
func TestCheckOfRoom(t *testing.T) {
	c := chapters()
	c.Cores = of(4, 8, 16, 8, 64, 8, 1, 4)
	c.Parts = of(part("all", 255, 100), part("low", 15, 100), part("high", 240, 100), part("even", 85, 100), part("last", 128, 100))
	most := map[string]map[int]int{ // how many nodes there are of so many cores
		"all":  {1: 8, 2: 7, 4: 7, 5: 5, 8: 5, 9: 2, 16: 2, 17: 1, 64: 1},
		"low":  {1: 4, 4: 4, 5: 3, 8: 3, 9: 1, 16: 1, 17: 0, 64: 0},
		"high": {1: 4, 2: 3, 4: 3, 5: 2, 8: 2, 9: 1, 16: 1, 17: 1, 64: 1},
		"even": {1: 4, 2: 3, 4: 3, 5: 2, 8: 2, 9: 2, 16: 2, 17: 1, 64: 1},
		"last": {1: 1, 4: 1, 5: 0, 64: 0},
	}
	for name, rooms := range most {
		for cores, count := range rooms {
			for nodes := 1; nodes <= maxNodes; nodes++ {
				want := api.OK
				if nodes > count {
					want = api.ErrLimit
				}
				checkCheck(t, name+", "+strconv.Itoa(nodes)+" nodes of "+strconv.Itoa(cores)+" cores", c, spec(name, "bio", nodes, cores, 100), want)
			}
		}
	}
}

// P16.2: ErrLimit with each node alone, of as many cores as asked, of one less and of one more.
func TestCheckOfEachNode(t *testing.T) {
	for node := range maxNodes {
		c := great()
		c.Parts[0].Nodes = 1 << node
		s := spec(numbered(0), numbered(0), 1, 8, 1)
		s.Qos = numbered(0)
		for cores, want := range map[int]api.Errno{7: api.ErrLimit, 8: api.OK, 9: api.OK} {
			c.Cores[node] = cores
			checkCheck(t, "node "+strconv.Itoa(node)+" of "+strconv.Itoa(cores)+" cores", c, s, want)
		}
		two := s
		two.Nodes = 2
		checkCheck(t, "node "+strconv.Itoa(node)+", two of it", c, two, api.ErrLimit)
	}
}

// faults are what makes each error, from the one that is told first on.
func faults() []struct {
	err    api.Errno
	change []func(c *api.Config, s *api.Spec)
} {
	type change = func(c *api.Config, s *api.Spec)
	return []struct {
		err    api.Errno
		change []change
	}{
		{api.ErrConfig, []change{
			func(c *api.Config, s *api.Spec) { c.Policy = 0 },
			func(c *api.Config, s *api.Spec) { c.Cores = append(c.Cores, 0) },
			func(c *api.Config, s *api.Spec) { c.Accounts[0].Limit = -2 },
			func(c *api.Config, s *api.Spec) { c.Qos[0].Jobs = -2 },
			func(c *api.Config, s *api.Spec) { c.Parts[0].MaxLimit = 0 },
		}},
		{api.ErrArg, []change{
			func(c *api.Config, s *api.Spec) { s.User = "" },
			func(c *api.Config, s *api.Spec) { s.Nodes = 0 },
			func(c *api.Config, s *api.Spec) { s.Nodes = maxNodes + 1 },
			func(c *api.Config, s *api.Spec) { s.Cores = 0 },
			func(c *api.Config, s *api.Spec) { s.Cores = maxCores + 1 },
			func(c *api.Config, s *api.Spec) { s.Limit = 0 },
		}},
		{api.ErrName, []change{
			func(c *api.Config, s *api.Spec) { s.Part = "x" },
			func(c *api.Config, s *api.Spec) { s.Account = "x" },
			func(c *api.Config, s *api.Spec) { s.Qos = "x" },
		}},
		{api.ErrAccess, []change{
			func(c *api.Config, s *api.Spec) { c.Parts[0].Accounts = of("lab") },
		}},
		{api.ErrLimit, []change{
			func(c *api.Config, s *api.Spec) { c.Parts[0].MaxLimit = 5 },
			func(c *api.Config, s *api.Spec) { c.Cores[0] = 2 },
			func(c *api.Config, s *api.Spec) { c.Parts[0].Nodes = 1 },
		}},
	}
}

// P16.2: which error comes first where two hold, and where all do.
func TestCheckTellsTheFirst(t *testing.T) {
	all := faults()
	for i, first := range all {
		for k, other := range all[i:] {
			for n, change := range first.change {
				for m, also := range other.change {
					c, s := chapters(), spec("main", "bio", 2, 3, 6)
					also(&c, &s)
					change(&c, &s)
					checkCheck(t, strconv.Itoa(int(first.err))+", way "+strconv.Itoa(n)+", beside "+strconv.Itoa(int(all[i+k].err))+", way "+strconv.Itoa(m), c, s, first.err)
				}
			}
		}
		c, s := chapters(), spec("main", "bio", 2, 3, 6)
		for _, fault := range all[i:] {
			for _, change := range fault.change {
				change(&c, &s)
			}
		}
		checkCheck(t, strconv.Itoa(int(first.err))+" and all behind it", c, s, first.err)
	}
	checkCheck(t, "no fault", chapters(), spec("main", "bio", 2, 3, 6), api.OK)
}

// P16.2: ErrConfig of each config that is not right, whatever is asked for.
func TestCheckOfWrongConfigs(t *testing.T) {
	for name, c := range wrongConfigs() {
		for _, s := range of(plain(), spec("big", "bio", 1, 1, 1), spec("x", "x", 1, 1, 1), spec("main", "bio", 9, 9, 999), api.Spec{}) {
			checkCheck(t, name, c, s, api.ErrConfig)
		}
	}
	for name, c := range rightConfigs() {
		s := spec(c.Parts[0].Name, c.Accounts[0].Name, 1, 1, 1)
		s.Qos = c.Qos[0].Name
		if e := parts.Check(c, s); e == api.ErrConfig || e != checkOf(c, s) {
			t.Errorf("%s: %d", name, e)
		}
	}
}

// P16.2: Deps are not asked, nor priorities, nor limits of accounts and qualities, nor the policy.
func TestOthersAreNotChecked(t *testing.T) {
	for name, deps := range map[string][]api.Dep{
		"none":      nil,
		"empty":     {},
		"one":       of(api.Dep{Kind: api.DepOk, Id: 1}),
		"too many":  make([]api.Dep, 300),
		"no kind":   of(api.Dep{Kind: 9, Id: 1}),
		"no id":     of(api.Dep{Kind: api.DepAny, Id: -1}),
		"one twice": of(api.Dep{Kind: api.DepOk, Id: 1}, api.Dep{Kind: api.DepFail, Id: 1}),
	} {
		for _, policy := range of(api.Fifo, api.Easy, api.Conservative) {
			c := chapters()
			c.Policy = policy
			c.Parts[0].Prio, c.Parts[1].Prio = mostPrio, 7
			c.Accounts[0].Limit, c.Accounts[2].Limit = 0, 0
			c.Qos[0] = api.Qos{Name: "normal", Prio: mostPrio}
			for s, want := range map[string]api.Errno{"main": api.OK, "big": api.ErrAccess, "x": api.ErrName} {
				x := spec(s, "bio", 2, 4, 100)
				x.Deps = deps
				checkCheck(t, "Deps: "+name+", "+s, c, x, want)
			}
		}
	}
}

// P16.2: any configs and specs.
func TestCheckOfAny(t *testing.T) {
	d := dice(4)
	told := map[api.Errno]int{}
	for range 50000 {
		c := d.config()
		if d.below(6) == 0 {
			c = d.wild()
		}
		s := d.spec(c)
		want := checkOf(c, s)
		if e := parts.Check(c, s); e != want {
			t.Fatalf("Check(%v, %v) = %d, not %d", c, s, e, want)
		}
		told[want]++
	}
	for _, e := range of(api.OK, api.ErrConfig, api.ErrArg, api.ErrName, api.ErrAccess, api.ErrLimit) {
		if told[e] < 2000 {
			t.Errorf("the test is wrong: %d is told %d times", e, told[e])
		}
	}
}

// P16.2: for any job that is let in, each thing that it asks for is set to the most that is let in, and then to one more.
func TestCheckAtEachEdge(t *testing.T) {
	d := dice(5)
	edges := 0
	for range 20000 {
		c := d.config()
		s := d.spec(c)
		if checkOf(c, s) != api.OK {
			continue
		}
		edges++
		at, _ := findOf(c.Parts, s.Part)
		p := c.Parts[at]
		edge := func(what string, most api.Spec, more api.Spec) {
			t.Helper()
			e, f := parts.Check(c, most), parts.Check(c, more)
			if e != api.OK || f != checkOf(c, more) || f != api.ErrLimit && f != api.ErrArg {
				t.Fatalf("%s: %v, %v: %d; %v: %d", what, c, most, e, more, f)
			}
		}
		most, more := s, s
		most.Limit, more.Limit = p.MaxLimit, p.MaxLimit+1
		edge("time", most, more)
		most, more = s, s
		most.Nodes = nodesOf(c, p.Nodes, s.Cores)
		more.Nodes = most.Nodes + 1
		edge("nodes", most, more)
		most = s
		for nodesOf(c, p.Nodes, most.Cores+1) >= s.Nodes {
			most.Cores++
		}
		more = most
		more.Cores++
		edge("cores", most, more)
	}
	if edges < 4000 {
		t.Errorf("the test is wrong: %d edges", edges)
	}
}
