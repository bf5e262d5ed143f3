package resv_test

import (
	"cmp"
	"math"
	"slices"

	"muster/api"
)

// dice are numbers that look like chance and are the same in each run.
type dice uint64

func (d *dice) next() uint64 {
	*d = *d*6364136223846793005 + 1442695040888963407
	return uint64(*d >> 32)
}

func (d *dice) below(n int) int { return int(d.next() % uint64(n)) }

// one is an element of l.
func one[T any](d *dice, l []T) T { return l[d.below(len(l))] }

// name is any name; many are short, so that some come twice.
func (d *dice) name() string {
	b := []byte{letters[d.below(len(letters))]}
	for range d.below(one(d, of(1, 2, maxName))) {
		b = append(b, behind[d.below(len(behind))])
	}
	return string(b)
}

// names are n names, unlike each other.
func (d *dice) names(n int) []string {
	var l []string
	for len(l) < n {
		if s := d.name(); !slices.Contains(l, s) {
			l = append(l, s)
		}
	}
	return l
}

// tree is a right tree: in one path, below one, with many roots, or anyhow.
func (d *dice) tree() []api.Account {
	var l []api.Account
	shape := d.below(4)
	for i, name := range d.names(1 + d.below(maxAccounts)) {
		a := api.Account{Name: name, Limit: d.below(10) - 1}
		switch {
		case i == 0:
		case shape == 0:
			a.Parent = l[i-1].Name
		case shape == 1:
			a.Parent = l[0].Name
		case shape == 2 && d.below(3) == 0, shape == 3 && d.below(8) > 0:
			a.Parent = one(d, l).Name
		}
		l = append(l, a)
	}
	return l
}

// config is a right one.
func (d *dice) config() api.Config {
	c := chapters()
	c.Cores, c.Accounts = nil, d.tree()
	for range 1 + d.below(one(d, of(1, 4, maxNodes))) {
		c.Cores = append(c.Cores, 1+d.below(64))
	}
	c.Parts[0].Nodes = 1
	c.Policy = api.Policy(1 + d.below(3))
	return c
}

// nodes is a set of at least one of so many nodes.
func (d *dice) nodes(count int) api.Set {
	s := api.Set(d.next()&d.next()) & (1<<count - 1)
	return s | 1<<d.below(count)
}

// users are some of the accounts, each once.
func (d *dice) users(accounts []api.Account) []string {
	l := of(one(d, accounts).Name)
	for range d.below(maxAccess) {
		if name := one(d, accounts).Name; !slices.Contains(l, name) {
			l = append(l, name)
		}
	}
	return l
}

// window is one that a reservation may have: short, long, or at an end of time.
func (d *dice) window() (from, to int64) {
	from = one(d, of(0, int64(d.below(50)), int64(d.below(50)), maxTime-50+int64(d.below(50))))
	to = from + 1 + int64(d.below(one(d, of(3, 20, 60))))
	if d.below(40) == 0 {
		to = maxTime
	}
	return from, min(to, maxTime)
}

// resv is one that may be, of c.
func (d *dice) resv(c api.Config) api.Resv {
	from, to := d.window()
	return api.Resv{Name: d.name(), Nodes: d.nodes(len(c.Cores)), From: from, To: to, Accounts: d.users(c.Accounts)}
}

// resvs are a right list of at most so many.
func (d *dice) resvs(c api.Config, most int) []api.Resv {
	var l []api.Resv
	tries := one(d, of(2, 10, 60))
	for len(l) < most && tries > 0 {
		tries--
		r := d.resv(c)
		if !slices.ContainsFunc(l, func(other api.Resv) bool { return other.Name == r.Name || clashOf(other, r) }) {
			l = append(l, r)
		}
	}
	slices.SortFunc(l, func(a, b api.Resv) int { return cmp.Compare(a.Name, b.Name) })
	return l
}

// bend changes one thing of r, so that it may be or not.
func (d *dice) bend(c api.Config, r *api.Resv) {
	switch d.below(8) {
	case 0:
		r.Name = one(d, wrongNames)
	case 1:
		r.Nodes ^= 1 << d.below(maxNodes)
	case 2:
		r.From = one(d, of(-1, 0, r.To-1, r.To, r.To+1, math.MinInt64, math.MaxInt64))
	case 3:
		r.To = one(d, of(r.From, r.From+1, r.From-1, maxTime, maxTime+1, math.MinInt64, math.MaxInt64))
	case 4:
		r.Accounts = append(r.Accounts, one(d, c.Accounts).Name)
	case 5:
		r.Accounts[d.below(len(r.Accounts))] = one(d, of("", d.name(), one(d, c.Accounts).Name))
	case 6:
		r.Accounts = r.Accounts[:len(r.Accounts)-1]
	case 7:
		r.From, r.To = d.window()
	}
}

// wild is a list with something changed in a place, right or not.
func (d *dice) wild(c api.Config) []api.Resv {
	l := d.resvs(c, maxResvs)
	if len(l) == 0 {
		return of(d.resv(c))
	}
	i, k := d.below(len(l)), d.below(len(l))
	switch d.below(6) {
	case 0:
		l[i], l[k] = l[k], l[i]
	case 1:
		l[i].Name = one(d, of(l[k].Name, d.name()))
	case 2:
		l = slices.Insert(l, i, d.resv(c))
	default:
		d.bend(c, &l[i])
	}
	return l
}

// strange are reservations of which none need be one that may be.
func (d *dice) strange(c api.Config) []api.Resv {
	l := d.wild(c)
	for range d.below(8) {
		r := d.resv(c)
		d.bend(c, &r)
		if d.below(2) == 0 {
			r.Name = one(d, l).Name
		}
		l = slices.Insert(l, d.below(len(l)+1), r)
	}
	return l
}
