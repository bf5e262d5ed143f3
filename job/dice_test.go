package job_test

import (
	"math"

	"muster/api"
)

// dice are numbers that look like chance and are the same in each run.
type dice uint64

func (d *dice) next() uint64 {
	*d = *d*6364136223846793005 + 1442695040888963407
	return uint64(*d >> 32)
}

func (d *dice) below(n int) int { return int(d.next() % uint64(n)) }

// one is an element of l.
func one[T any](d *dice, l []T) T { return l[d.below(len(l))] }

// nodes is a set of so many nodes, anywhere.
func (d *dice) nodes(count int) api.Set {
	var s api.Set
	for countOf(s) < count {
		s |= 1 << d.below(maxNodes)
	}
	return s
}

// time is one from that time on, often at an edge.
func (d *dice) time(from int64) int64 {
	at := one(d, of(from, from+1, from+int64(d.below(9)), from+int64(d.next()), maxTime-int64(d.below(3)), maxTime))
	return max(from, min(at, maxTime))
}

// deps are some dependencies, or none; nothing is asked of them here.
func (d *dice) deps() []api.Dep {
	var l []api.Dep
	for range d.below(6) {
		l = append(l, api.Dep{Kind: api.DepKind(d.below(5)), Id: d.below(9) - 1})
	}
	return l
}

// spec is one that a right job has, often at an edge.
func (d *dice) spec() api.Spec {
	return api.Spec{
		User: one(d, of("", "ann", "root")), Account: one(d, of("", "phys", "lab")), Qos: one(d, of("", "normal")), Part: one(d, of("", "main", "big")),
		Nodes: one(d, of(1, 2, 1+d.below(maxNodes), maxNodes)), Cores: one(d, of(1, 1+d.below(maxCores), maxCores)), Limit: one(d, of(1, int64(1+d.below(99)), maxLimit)), Deps: d.deps(),
	}
}

// job is a right one of that kind.
func (d *dice) job(k kind) api.Job {
	id := one(d, of(1, 2, 1+d.below(maxId), maxId))
	j := api.Job{Id: id, Of: one(d, of(0, 1, d.below(id+1), id)), Index: one(d, of(0, 1, d.below(10000), math.MaxInt)), Spec: d.spec(), State: k.state}
	j.Submit = d.time(0)
	if k.begins {
		j.Start, j.On = d.time(j.Submit), d.nodes(j.Spec.Nodes)
	}
	if k.ends {
		j.End = d.time(max(j.Submit, j.Start))
	}
	if j.State == api.Failed {
		j.Exit = one(d, of(1, 2, -1, math.MinInt, math.MaxInt))
	}
	return j
}

// number is any number, often at an edge.
func (d *dice) number() int64 {
	return one(d, of(math.MinInt64, -1, 0, 1, 2, 3, int64(d.below(40)), maxNodes, maxNodes+1, maxCores, maxCores+1, maxLimit, maxLimit+1, maxId, maxId+1, maxTime-1, maxTime, maxTime+1, math.MaxInt64))
}

// bend changes one thing of j, so that it may be or not.
func (d *dice) bend(j *api.Job) {
	switch d.below(12) {
	case 0:
		j.Id = int(d.number())
	case 1:
		j.Of = int(one(d, of(d.number(), int64(j.Id), int64(j.Id)+1)))
	case 2:
		j.Index = int(d.number())
	case 3:
		j.Spec.Nodes = int(d.number())
	case 4:
		j.Spec.Cores = int(d.number())
	case 5:
		j.Spec.Limit = d.number()
	case 6:
		j.State = api.JobState(one(d, of(d.below(10), d.below(256))))
	case 7:
		j.Submit = one(d, of(d.number(), j.Start, j.Start+1, j.End, j.End+1))
	case 8:
		j.Start = one(d, of(d.number(), j.Submit-1, j.Submit, j.End, j.End+1))
	case 9:
		j.End = one(d, of(d.number(), j.Submit-1, j.Submit, j.Start-1, j.Start))
	case 10:
		j.On = one(d, of(0, j.On^1<<d.below(maxNodes), d.nodes(1), every))
	case 11:
		j.Exit = int(d.number())
	}
}
