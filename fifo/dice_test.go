package fifo_test

import (
	"math"
	"slices"
	"strconv"

	"muster/api"
	"muster/parts"
)

// dice are numbers that look like chance and are the same in each run.
type dice uint64

func (d *dice) next() uint64 {
	*d = *d*6364136223846793005 + 1442695040888963407
	return uint64(*d >> 32)
}

func (d *dice) below(n int) int { return int(d.next() % uint64(n)) }

// one is an element of l.
func one[T any](d *dice, l []T) T { return l[d.below(len(l))] }

// nodes is a set of so many of the first most nodes.
func (d *dice) nodes(count, most int) api.Set {
	var s api.Set
	for countOf(s) < min(count, most) {
		s |= 1 << d.below(most)
	}
	return s
}

// limit is one of cores or jobs: often none.
func (d *dice) limit() int {
	return one(d, of(-1, -1, -1, -1, -1, d.below(3), d.below(20), d.below(60)))
}

// config is a right one, of few nodes mostly.
func (d *dice) config() api.Config {
	c := api.Config{Policy: api.Policy(1 + d.below(3))}
	for range 1 + d.below(one(d, of(2, 4, 6, maxNodes))) {
		c.Cores = append(c.Cores, 1+d.below(one(d, of(2, 4, 8))))
	}
	for i := range 1 + d.below(5) {
		a := api.Account{Name: "a" + strconv.Itoa(i), Limit: d.limit()}
		if i > 0 && d.below(4) > 0 {
			a.Parent = one(d, c.Accounts).Name
		}
		c.Accounts = append(c.Accounts, a)
	}
	for i := range 1 + d.below(3) {
		c.Qos = append(c.Qos, api.Qos{Name: "q" + strconv.Itoa(i), Prio: d.below(3), Limit: d.limit(), Jobs: d.limit()})
	}
	for i := range 1 + d.below(3) {
		p := api.Part{Name: "p" + strconv.Itoa(i), Nodes: 1<<len(c.Cores) - 1, Prio: d.below(3), MaxLimit: int64(one(d, of(5, 30, maxLimit)))}
		if d.below(3) == 0 {
			p.Nodes = d.nodes(1+d.below(len(c.Cores)), len(c.Cores))
		}
		if d.below(4) == 0 {
			p.Accounts = of(one(d, c.Accounts).Name)
		}
		c.Parts = append(c.Parts, p)
	}
	return c
}

// resvs are a right list of few, around now.
func (d *dice) resvs(c api.Config, now int64) []api.Resv {
	var l []api.Resv
	for i := range d.below(5) {
		from := max(0, now-5+int64(d.below(40)))
		r := held("r"+strconv.Itoa(i), d.nodes(1+d.below(len(c.Cores)), len(c.Cores)), from, min(maxTime, from+1+int64(d.below(30))), one(d, c.Accounts).Name)
		clash := slices.ContainsFunc(l, func(other api.Resv) bool {
			return other.Nodes&r.Nodes != 0 && other.From < r.To && r.From < other.To
		})
		if !clash && r.From < r.To {
			l = append(l, r)
		}
	}
	return l
}

// spec is one that c lets in.
func (d *dice) spec(c api.Config) api.Spec {
	for {
		s := api.Spec{User: one(d, of("ann", "bob")), Account: one(d, c.Accounts).Name, Qos: one(d, c.Qos).Name, Part: one(d, c.Parts).Name, Nodes: 1 + d.below(one(d, of(1, 2, len(c.Cores)))), Cores: 1 + d.below(one(d, of(1, 3, 8))), Limit: int64(1 + d.below(one(d, of(1, 5, 30))))}
		if parts.Check(c, s) == api.OK {
			return s
		}
	}
}

// deps are what a job of that id may wait for: nothing, mostly.
func (d *dice) deps(id int) []api.Dep {
	var l []api.Dep
	if id == 1 || d.below(3) > 0 {
		return l
	}
	for range 1 + d.below(2) {
		dep := api.Dep{Kind: api.DepKind(1 + d.below(3)), Id: 1 + d.below(id-1)}
		if !slices.Contains(l, dep) {
			l = append(l, dep)
		}
	}
	return l
}

// job is a right one for s, which has run, runs where there is room, or waits.
func (d *dice) job(s api.State, id int) api.Job {
	j := api.Job{Id: id, State: api.Pending, Spec: d.spec(s.Config), Submit: max(0, s.Now-int64(d.below(50)))}
	j.Spec.Deps = d.deps(id)
	switch d.below(8) {
	case 0:
		j.Start = j.Submit + int64(d.next())%(s.Now-j.Submit+1)
		return over(j, one(d, of(api.Completed, api.Failed, api.Timeout, api.Cancelled, api.NodeFail)), d.nodes(j.Spec.Nodes, len(s.Nodes)), j.Start, j.Start+int64(d.next())%(s.Now-j.Start+1))
	case 1:
		return left(j, one(d, of(api.Cancelled, api.Never)), s.Now)
	case 2, 3:
		began := runs(j, d.nodes(j.Spec.Nodes, len(s.Nodes)), max(j.Submit, s.Now+1-j.Spec.Limit, s.Now-int64(d.below(9))))
		s.Jobs = append(slices.Clone(s.Jobs), began)
		if fit(s) {
			return began
		}
	}
	return j
}

// state is any right one.
func (d *dice) state() api.State {
	s := api.State{Config: d.config(), Now: one(d, of(0, 1, 100, 100, 100, int64(d.below(60)), maxTime-int64(d.below(30)), maxTime))}
	s.Nodes = upNodes(s.Config.Cores)
	for i := range s.Nodes {
		s.Nodes[i].Up = d.below(6) > 0
		s.Nodes[i].Epoch = 1 + d.below(3)
	}
	s.Resvs = d.resvs(s.Config, s.Now)
	id := 0
	for range d.below(one(d, of(4, 8, 20))) {
		id += 1 + d.below(2)*d.below(3)
		s.Jobs = append(s.Jobs, d.job(s, id))
	}
	s.Next = id + 1 + d.below(2)*d.below(9)
	for _, j := range s.Jobs {
		if j.State == api.Pending && d.below(3) == 0 {
			s.Promises = append(s.Promises, api.Promise{Id: j.Id, Start: min(maxTime, s.Now+int64(d.below(40))), On: d.nodes(j.Spec.Nodes, len(s.Nodes))})
		}
	}
	return s
}

// number is any number, often at an edge.
func (d *dice) number() int64 {
	return one(d, of(math.MinInt64, -1, 0, 1, 2, 3, int64(d.below(40)), maxNodes, maxCores, maxLimit, maxLimit+1, maxId, maxId+1, maxId+2, maxTime-1, maxTime, maxTime+1, math.MaxInt64))
}

// around is a number near that one, or any.
func (d *dice) around(n int64) int64 { return one(d, of(n, n-1, n+1, d.number())) }

// bend changes one thing of s, so that it may be right or not.
func (d *dice) bend(s *api.State) {
	switch d.below(12) {
	case 0:
		s.Now = one(d, of(d.around(s.Now), d.around(s.Now), s.Now+int64(d.below(9))))
	case 1:
		s.Next = int(d.around(int64(s.Next)))
	case 2:
		if len(s.Nodes) > 0 {
			n := &s.Nodes[d.below(len(s.Nodes))]
			n.Up = !n.Up
			n.Epoch = int(d.around(int64(n.Epoch)))
			n.Cores = one(d, of(n.Cores, n.Cores, n.Cores+1))
		}
	case 3:
		if i := d.below(len(s.Nodes) + 1); d.below(3) > 0 && i < len(s.Nodes) {
			s.Nodes = slices.Delete(s.Nodes, i, i+1)
		} else {
			s.Nodes = append(s.Nodes, api.Node{Cores: 1, Up: true, Epoch: 1})
		}
	case 4:
		d.bendConfig(&s.Config)
	case 5:
		if len(s.Resvs) > 0 {
			r := &s.Resvs[d.below(len(s.Resvs))]
			r.From, r.To = one(d, of(r.From, d.around(r.From))), one(d, of(r.To, d.around(r.To)))
			r.Name = one(d, of(r.Name, one(d, s.Resvs).Name))
		}
	case 6:
		if len(s.Promises) > 0 {
			d.bendPromise(s, &s.Promises[d.below(len(s.Promises))])
		}
	default:
		if len(s.Jobs) > 0 {
			d.bendJob(s, &s.Jobs[d.below(len(s.Jobs))])
		}
	}
}

// bendConfig changes one thing of c, so that it may be right or not.
func (d *dice) bendConfig(c *api.Config) {
	switch d.below(5) {
	case 0:
		c.Policy = api.Policy(d.below(5))
	case 1:
		c.Cores[d.below(len(c.Cores))] = one(d, of(0, 1, 4, 64, 65))
	case 2:
		c.Parts[d.below(len(c.Parts))].Nodes ^= 1 << d.below(maxNodes)
	case 3:
		if len(c.Parts) > 1 {
			c.Parts = c.Parts[1:]
		}
	case 4:
		c.Accounts[d.below(len(c.Accounts))].Name = one(d, of("a0", "a1", "x", ""))
	}
}

// bendPromise changes one thing of p, so that it may be right or not.
func (d *dice) bendPromise(s *api.State, p *api.Promise) {
	switch d.below(3) {
	case 0:
		p.Id = int(d.around(int64(p.Id)))
	case 1:
		p.Start = d.around(p.Start)
	case 2:
		p.On = one(d, of(p.On^1<<d.below(maxNodes), d.nodes(countOf(p.On), maxNodes)))
	}
}

// bendJob changes one thing of j, so that it may be right or not.
func (d *dice) bendJob(s *api.State, j *api.Job) {
	switch d.below(10) {
	case 0:
		j.Id = int(d.around(int64(j.Id)))
	case 1:
		j.Submit = one(d, of(d.around(j.Submit), d.around(s.Now)))
	case 2:
		j.Start = one(d, of(d.around(j.Start), d.around(s.Now), s.Now-j.Spec.Limit, s.Now-j.Spec.Limit+1))
	case 3:
		j.End = one(d, of(d.around(j.End), d.around(s.Now)))
	case 4:
		j.On = one(d, of(j.On^1<<d.below(maxNodes), d.nodes(countOf(j.On), maxNodes), d.nodes(countOf(j.On), len(s.Config.Cores))))
	case 5:
		j.Spec.Cores = int(d.around(int64(j.Spec.Cores)))
	case 6:
		j.Spec.Limit = d.around(j.Spec.Limit)
	case 7:
		j.State = api.JobState(d.below(10))
	case 8:
		j.Spec.Deps = of(api.Dep{Kind: api.DepKind(1 + d.below(3)), Id: int(d.around(int64(j.Id)))})
	case 9:
		switch d.below(4) {
		case 0:
			j.Spec.Part = one(d, of("p0", "p1", "p2", ""))
		case 1:
			j.Spec.Account = one(d, of("a0", "a1", "a4", ""))
		case 2:
			j.Spec.Qos = one(d, of("q0", "q2", ""))
		case 3:
			j.Spec.Nodes = int(d.around(int64(j.Spec.Nodes)))
		}
	}
}
