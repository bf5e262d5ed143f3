package deps_test

import (
	"math"
	"slices"

	"muster/api"
)

// dice are numbers that look like chance and are the same in each run.
type dice uint64

func (d *dice) next() uint64 {
	*d = *d*6364136223846793005 + 1442695040888963407
	return uint64(*d >> 32)
}

func (d *dice) below(n int) int { return int(d.next() % uint64(n)) }

// one is an element of l.
func one[T any](d *dice, l []T) T { return l[d.below(len(l))] }

// number is any number, often at an edge.
func (d *dice) number() int {
	return one(d, of(math.MinInt, math.MinInt+1, -1, 0, 1, 2, d.below(40), maxId-1, maxId, maxId+1, 1<<32, 1<<32+1, math.MaxInt-1, math.MaxInt))
}

// dep is a dependency on one of so many jobs; now and then its kind or its id is another one.
func (d *dice) dep(count int) api.Dep {
	x := api.Dep{Kind: api.DepKind(1 + d.below(3)), Id: 1 + d.below(count)}
	switch d.below(16) {
	case 0:
		x.Kind = api.DepKind(one(d, of(0, 4, 5, 255, d.below(256))))
	case 1:
		x.Id = one(d, of(0, -1, count+1, d.number()))
	}
	return x
}

// list is some dependencies, or none; now and then one stands there twice.
func (d *dice) list(count int) []api.Dep {
	var l []api.Dep
	for range d.below(maxDeps + 2) {
		if len(l) > 0 && d.below(12) == 0 {
			l = append(l, one(d, l))
			continue
		}
		l = append(l, d.dep(count))
	}
	return l
}

// state is one of the eight, seldom another one.
func (d *dice) state() api.JobState {
	if d.below(40) == 0 {
		return api.JobState(one(d, of(0, 9, 255, d.below(256))))
	}
	return api.JobState(1 + d.below(8))
}

// jobs are so many, by rising ids; now and then one is not there, or stands there twice, or they do not rise.
func (d *dice) jobs(count int) []api.Job {
	var l []api.Job
	for id := 1; id <= count; id++ {
		for range one(d, of(1, 1, 1, 1, 1, 1, 1, 1, 0, 2)) {
			j := in(id, d.state())
			j.Spec.Deps = d.list(count)
			l = append(l, j)
		}
	}
	if d.below(4) == 0 {
		slices.Reverse(l)
	}
	return l
}
