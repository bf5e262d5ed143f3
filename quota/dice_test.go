package quota_test

import (
	"slices"

	"muster/api"
)

// dice are numbers that look like chance and are the same in each run.
type dice uint64

func (d *dice) next() uint64 {
	*d = *d*6364136223846793005 + 1442695040888963407
	return uint64(*d >> 32)
}

func (d *dice) below(n int) int { return int(d.next() % uint64(n)) }

// name is any name.
func (d *dice) name() string {
	b := []byte{letters[d.below(len(letters))]}
	for range d.below(maxName) {
		b = append(b, behind[d.below(len(behind))])
	}
	return string(b)
}

// limit is a number that may be a limit: often none, often one that some jobs just meet.
func (d *dice) limit(usual int) int {
	switch d.below(8) {
	case 0, 1, 2:
		return -1
	case 3:
		return mostLimit - d.below(2)
	case 4:
		return d.below(3)
	}
	return d.below(usual)
}

// tree is a right tree: in one path, below one, with many roots, or anyhow.
func (d *dice) tree() []api.Account {
	var l []api.Account
	shape := d.below(4)
	for count := 1 + d.below(maxAccounts); len(l) < count; {
		a := api.Account{Name: d.name(), Limit: d.limit(200)}
		if slices.ContainsFunc(l, func(b api.Account) bool { return b.Name == a.Name }) {
			continue
		}
		if len(l) > 0 {
			switch shape {
			case 0:
				a.Parent = l[len(l)-1].Name
			case 1:
				a.Parent = l[0].Name
			case 2:
				if d.below(3) == 0 {
					a.Parent = l[d.below(len(l))].Name
				}
			default:
				if d.below(8) > 0 {
					a.Parent = l[d.below(len(l))].Name
				}
			}
		}
		l = append(l, a)
	}
	return l
}

// qualities is a right list; some of it may be named as accounts are.
func (d *dice) qualities(accounts []api.Account) []api.Qos {
	var l []api.Qos
	for count := 1 + d.below(maxQos); len(l) < count; {
		q := api.Qos{Name: d.name(), Prio: d.below(mostPrio + 1), Limit: d.limit(200), Jobs: d.limit(8)}
		if d.below(4) == 0 {
			q.Name = accounts[d.below(len(accounts))].Name
		}
		if !slices.ContainsFunc(l, func(p api.Qos) bool { return p.Name == q.Name }) {
			l = append(l, q)
		}
	}
	return l
}

// config is a right one.
func (d *dice) config() api.Config {
	accounts := d.tree()
	return config(accounts, d.qualities(accounts))
}

// wild is a config with something changed in one or two places, right or not.
func (d *dice) wild() api.Config {
	c := d.config()
	for range 1 + d.below(2) {
		q, a := &c.Qos[d.below(len(c.Qos))], &c.Accounts[d.below(len(c.Accounts))]
		switch d.below(9) {
		case 0:
			q.Name = c.Qos[d.below(len(c.Qos))].Name
		case 1:
			q.Name = wrongNames[d.below(len(wrongNames))]
		case 2:
			q.Limit = manyLimits[d.below(len(manyLimits))]
		case 3:
			q.Jobs = manyLimits[d.below(len(manyLimits))]
		case 4:
			q.Prio = manyPrios[d.below(len(manyPrios))]
		case 5:
			c.Qos = append(c.Qos, quality(d.name(), 0, 0))
		case 6:
			a.Parent = c.Accounts[d.below(len(c.Accounts))].Name
		case 7:
			a.Name = c.Accounts[d.below(len(c.Accounts))].Name
		case 8:
			a.Limit = manyLimits[d.below(len(manyLimits))]
		}
	}
	return c
}

// asked is nodes, or cores, of a spec: mostly few, at times the most that may be.
func (d *dice) asked() int {
	if d.below(16) == 0 {
		return mostAsked - d.below(2)
	}
	return 1 + d.below(6)
}

// account is the name of an account of c, or at times of none.
func (d *dice) account(c api.Config) string {
	if d.below(12) == 0 {
		return of("", "x y", d.name(), c.Qos[d.below(len(c.Qos))].Name)[d.below(4)]
	}
	return c.Accounts[d.below(len(c.Accounts))].Name
}

// quality is the name of a quality of c, or at times of none.
func (d *dice) quality(c api.Config) string {
	if d.below(12) == 0 {
		return of("", "x y", d.name(), c.Accounts[d.below(len(c.Accounts))].Name)[d.below(4)]
	}
	return c.Qos[d.below(len(c.Qos))].Name
}

// spec is one of which something is promised.
func (d *dice) spec(c api.Config) api.Spec {
	return spec(d.account(c), d.quality(c), d.asked(), d.asked())
}

// jobs are some, most of which run.
func (d *dice) jobs(c api.Config) []api.Job {
	var l []api.Job
	for range d.below(12) {
		state := api.Running
		if d.below(3) == 0 {
			state = api.JobState(d.below(10))
		}
		l = append(l, inState(state, d.spec(c)))
	}
	return l
}
