package order_test

import (
	"math"
	"slices"
	"strconv"

	"muster/api"
)

// dice are numbers that look like chance and are the same in each run.
type dice uint64

func (d *dice) next() uint64 {
	*d = *d*6364136223846793005 + 1442695040888963407
	return uint64(*d >> 32)
}

func (d *dice) below(n int) int { return int(d.next() % uint64(n)) }

// one is an element of l.
func one[T any](d *dice, l []T) T { return l[d.below(len(l))] }

// turned is l in any order, in a new list.
func turned[T any](d *dice, l []T) []T {
	l = slices.Clone(l)
	for i := range l {
		k := d.below(i + 1)
		l[i], l[k] = l[k], l[i]
	}
	return l
}

// prio is one that a right config may have; few of them, so that many are alike, and often an edge.
func (d *dice) prio() int {
	return one(d, of(0, 0, 1, 1, 2, mostPrio-1, mostPrio, d.below(mostPrio+1)))
}

// config is a right one; some of its partitions have the names of qualities.
func (d *dice) config() api.Config {
	var parts []api.Part
	var qos []api.Qos
	for i := range 1 + d.below(maxParts) {
		parts = append(parts, part(one(d, of("a", "p"))+strconv.Itoa(i), d.prio()))
	}
	for i := range 1 + d.below(maxQos) {
		qos = append(qos, quality(one(d, of("a", "q"))+strconv.Itoa(i), d.prio()))
	}
	return config(turned(d, parts), turned(d, qos))
}

// anyConfig is one that is right, and true, or one that is wrong for one thing, and false.
func (d *dice) anyConfig() (api.Config, bool) {
	c := d.config()
	p, q := &c.Parts[d.below(len(c.Parts))], &c.Qos[d.below(len(c.Qos))]
	switch d.below(20) {
	case 0:
		p.Prio = one(d, of(-1, mostPrio+1, math.MinInt, math.MaxInt))
	case 1:
		q.Prio = one(d, of(-1, mostPrio+1, math.MinInt, math.MaxInt))
	case 2:
		p.Name = one(d, of("", "A", "1", "a b"))
	case 3:
		q.Name = one(d, of("", "A", "1", "a b"))
	case 4:
		c.Parts = append(c.Parts, *p)
	case 5:
		c.Qos = append(c.Qos, *q)
	case 6:
		c.Cores, c.Accounts, c.Policy = nil, nil, 0
	default:
		return c, true
	}
	return c, false
}

// spec is what asks for a partition and a quality of c, or now and then for what is none.
func (d *dice) spec(c api.Config) api.Spec {
	s := spec(one(d, c.Parts).Name, one(d, c.Qos).Name)
	switch d.below(10) {
	case 0:
		s.Part = one(d, of("", "x", "a9", s.Qos))
	case 1:
		s.Qos = one(d, of("", "x", "a9", s.Part))
	case 2:
		s.Part, s.Qos = one(d, of("", "x")), one(d, of("", "x"))
	}
	return s
}

// id is any number, often one of a few.
func (d *dice) id(few int) int {
	if d.below(8) == 0 {
		return one(d, of(math.MinInt, math.MinInt+1, -1, 0, maxId, maxId+1, math.MaxInt-1, math.MaxInt))
	}
	return d.below(few) - few/4
}

// job is one that asks for what c has, or not; mostly pending.
func (d *dice) job(c api.Config, id int) api.Job {
	j := api.Job{Id: id, State: pending, Spec: d.spec(c)}
	if d.below(3) == 0 {
		j.State = api.JobState(one(d, of(0, 1, 2, 3, 4, 5, 6, 7, 8, 9, 255)))
	}
	return j
}

// jobs are so many; each id may stand there more than once.
func (d *dice) jobs(c api.Config, count int) []api.Job {
	var l []api.Job
	for range count {
		l = append(l, d.job(c, d.id(1+count)))
	}
	return l
}

// unlike are so many with unlike ids, in any order.
func (d *dice) unlike(c api.Config, count int) []api.Job {
	var l []api.Job
	ids := map[int]int{}
	for len(l) < count {
		id := d.id(2 * count)
		if ids[id]++; ids[id] == 1 {
			l = append(l, d.job(c, id))
		}
	}
	return l
}
