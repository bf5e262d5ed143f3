package parts_test

import (
	"slices"

	"muster/api"
)

// dice are numbers that look like chance and are the same in each run.
type dice uint64

func (d *dice) next() uint64 {
	*d = *d*6364136223846793005 + 1442695040888963407
	return uint64(*d >> 32)
}

func (d *dice) below(n int) int { return int(d.next() % uint64(n)) }

// one is an element of l.
func one[T any](d *dice, l []T) T { return l[d.below(len(l))] }

// name is any name.
func (d *dice) name() string {
	b := []byte{letters[d.below(len(letters))]}
	for range d.below(maxName) {
		b = append(b, behind[d.below(len(behind))])
	}
	return string(b)
}

// names are n names, unlike each other.
func (d *dice) names(n int) []string {
	var l []string
	for len(l) < n {
		if s := d.name(); !slices.Contains(l, s) {
			l = append(l, s)
		}
	}
	return l
}

// tree is a right tree: in one path, below one, with many roots, or anyhow.
func (d *dice) tree() []api.Account {
	var l []api.Account
	shape := d.below(4)
	for i, name := range d.names(1 + d.below(maxAccounts)) {
		a := api.Account{Name: name, Limit: d.below(10) - 1}
		switch {
		case i == 0:
		case shape == 0:
			a.Parent = l[i-1].Name
		case shape == 1:
			a.Parent = l[0].Name
		case shape == 2 && d.below(3) == 0, shape == 3 && d.below(8) > 0:
			a.Parent = one(d, l).Name
		}
		l = append(l, a)
	}
	return l
}

// qualities is a right list.
func (d *dice) qualities() []api.Qos {
	var l []api.Qos
	for _, name := range d.names(1 + d.below(maxQos)) {
		l = append(l, api.Qos{Name: name, Prio: d.below(mostPrio + 1), Limit: d.below(10) - 1, Jobs: d.below(10) - 1})
	}
	return l
}

// cores are of few nodes or of many, alike or not.
func (d *dice) cores() []int {
	most := one(d, of(1, 4, maxNodes))
	var l []int
	for range 1 + d.below(most) {
		l = append(l, 1+d.below(one(d, of(4, 8, maxCores))))
	}
	return l
}

// nodes is a set of at least one of so many nodes.
func (d *dice) nodes(count int) api.Set {
	s := api.Set(d.next()) & (1<<count - 1)
	if d.below(3) == 0 {
		s = 1<<count - 1
	}
	return s | 1<<d.below(count)
}

// users are some of the accounts, each once, or none.
func (d *dice) users(accounts []api.Account) []string {
	var l []string
	if d.below(3) == 0 {
		return l
	}
	for range 1 + d.below(maxAccess) {
		if name := one(d, accounts).Name; !slices.Contains(l, name) {
			l = append(l, name)
		}
	}
	return l
}

// time is one that may be the most of a partition.
func (d *dice) time() int64 {
	return one(d, of(1, 2, mostTime-1, mostTime, 1+int64(d.below(100)), 1+int64(d.below(mostTime))))
}

// config is a right one.
func (d *dice) config() api.Config {
	c := api.Config{Cores: d.cores(), Accounts: d.tree(), Qos: d.qualities(), Policy: api.Policy(1 + d.below(3))}
	for _, name := range d.names(1 + d.below(maxParts)) {
		c.Parts = append(c.Parts, api.Part{Name: name, Nodes: d.nodes(len(c.Cores)), Prio: d.below(mostPrio + 1), MaxLimit: d.time(), Accounts: d.users(c.Accounts)})
	}
	return c
}

// wild is a config with something changed in one or two places, right or not.
func (d *dice) wild() api.Config {
	c := d.config()
	for range 1 + d.below(2) {
		p, a, q := &c.Parts[d.below(len(c.Parts))], &c.Accounts[d.below(len(c.Accounts))], &c.Qos[d.below(len(c.Qos))]
		switch d.below(14) {
		case 0:
			p.Name = one(d, c.Parts).Name
		case 1:
			p.Name = one(d, wrongNames)
		case 2:
			p.Nodes = api.Set(d.next()) & api.Set(d.next()) & api.Set(d.next())
		case 3:
			p.Nodes ^= 1 << d.below(maxNodes)
		case 4:
			p.Prio = one(d, manyPrios)
		case 5:
			p.MaxLimit = one(d, manyTimes)
		case 6:
			p.Accounts = append(p.Accounts, one(d, c.Accounts).Name)
		case 7:
			a.Name = one(d, of(one(d, c.Accounts).Name, d.name()))
		case 8:
			c.Parts = append(c.Parts, part(d.name(), 1, 1))
		case 9:
			c.Policy = api.Policy(d.below(6))
		case 10:
			c.Cores[d.below(len(c.Cores))] = one(d, manyCores)
		case 11:
			c.Cores = append(c.Cores, 1)
		case 12:
			a.Parent = one(d, c.Accounts).Name
		case 13:
			q.Prio = one(d, manyPrios)
		}
	}
	return c
}

// spec is one that c may let in, but for one or two places in which it may be anything.
func (d *dice) spec(c api.Config) api.Spec {
	p := one(d, c.Parts)
	s := api.Spec{User: d.name(), Account: one(d, c.Accounts).Name, Qos: one(d, c.Qos).Name, Part: p.Name, Nodes: 1 + d.below(2), Cores: 1 + d.below(6), Limit: 1}
	if p.MaxLimit > 0 {
		s.Limit += int64(d.next()) % p.MaxLimit
	}
	if len(p.Accounts) > 0 && d.below(2) == 0 {
		s.Account = one(d, p.Accounts)
	}
	for range d.below(3) {
		switch d.below(10) {
		case 0:
			s.User = one(d, wrongNames)
		case 1:
			s.Part = one(d, of("", "x y", d.name(), s.Account, s.Qos))
		case 2:
			s.Account = one(d, of("", "x y", d.name(), s.Part, s.Qos))
		case 3:
			s.Qos = one(d, of("", "x y", d.name(), s.Account, s.Part))
		case 4:
			s.Nodes = one(d, of(-1, 0, 1, maxNodes, maxNodes+1, 1+d.below(maxNodes)))
		case 5, 6:
			s.Cores = one(d, of(-1, 0, 1, maxCores, maxCores+1, 1+d.below(maxCores), 1+d.below(maxCores)))
		case 7:
			s.Limit = one(d, of(-1, 0, 1, p.MaxLimit, p.MaxLimit+1))
		case 8:
			s.Nodes = nodesOf(c, p.Nodes, s.Cores) + d.below(2)
		case 9:
			s.Deps = of(api.Dep{Kind: api.DepKind(d.below(5)), Id: d.below(9) - 2})
		}
	}
	return s
}
