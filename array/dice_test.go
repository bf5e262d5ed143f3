package array_test

import (
	"slices"
	"strconv"
	"strings"

	"muster/api"
)

// dice are numbers that look like chance and are the same in each run.
type dice uint64

func (d *dice) next() uint64 {
	*d = *d*6364136223846793005 + 1442695040888963407
	return uint64(*d >> 32)
}

func (d *dice) below(n int) int { return int(d.next() % uint64(n)) }

// one is an element of l.
func one[T any](d *dice, l []T) T { return l[d.below(len(l))] }

// list is an index list: runs with steps and gaps, often at an edge.
func (d *dice) list() []int {
	var l []int
	at := one(d, of(0, 0, 1, d.below(20), d.below(9900), 9900))
	for range 1 + d.below(8) {
		step := one(d, of(1, 1, 2, 1+d.below(9), 1+d.below(900)))
		for range one(d, of(1, 2, 2, 3, 3, 4, 1+d.below(maxArray))) {
			l = append(l, at)
			at += step
		}
		if d.below(2) == 0 {
			at += d.below(9)
		}
	}
	l = slices.DeleteFunc(l, func(i int) bool { return i > maxIndex })
	if len(l) == 0 {
		return of(d.below(maxIndex + 1))
	}
	return l[:min(len(l), maxArray)]
}

// bent is l with one thing changed, so that it may be an index list or not.
func (d *dice) bent(l []int) []int {
	l = slices.Clone(l)
	at := d.below(len(l))
	switch d.below(6) {
	case 0:
		l[at] = one(d, of(-1, 0, 1, d.below(100), maxIndex-1, maxIndex, maxIndex+1, -1<<63, 1<<63-1))
	case 1:
		l = slices.Insert(l, at, l[at])
	case 2:
		l[at], l[len(l)-1] = l[len(l)-1], l[at]
	case 3:
		l[at] += one(d, of(-1, 1))
	case 4:
		l = slices.Delete(l, at, at+1)
	case 5:
		l = append(l, span(l[len(l)-1]+1, l[len(l)-1]+maxArray-1, 1)...)
	}
	return l
}

// piece is a right one, or one that looks so.
func (d *dice) piece() string {
	number := func() int { return one(d, of(d.below(9), d.below(99), d.below(maxIndex+1), 0, maxIndex)) }
	a := number()
	b := one(d, of(a, a+d.below(9), a+d.below(40), number()))
	text := strconv.Itoa(a)
	if d.below(3) > 0 {
		text += "-" + strconv.Itoa(b)
		if d.below(2) > 0 {
			text += ":" + strconv.Itoa(one(d, of(1, 2, 3, d.below(9), number())))
		}
	}
	return text
}

// text is some pieces; most of them are short, so that they may say 32 indexes and still not one twice.
func (d *dice) text() string {
	var pieces []string
	for range one(d, of(1, 2, 3, 1+d.below(9), 1+d.below(60))) {
		piece := d.piece()
		if d.below(3) > 0 {
			piece = strconv.Itoa(d.below(maxIndex + 1))
		}
		pieces = append(pieces, piece)
	}
	return strings.Join(pieces, ",")
}

// number is any number, often at an edge.
func (d *dice) number() int64 {
	return one(d, of(-1<<63, -1, 0, 1, 2, int64(d.below(40)), 32, 33, 64, 65, maxLimit, maxLimit+1, maxId, maxId+1, maxTime-1, maxTime, maxTime+1, 1<<63-1))
}

// spec is one that a right job has, often at an edge.
func (d *dice) spec() api.Spec {
	s := api.Spec{
		User: one(d, of("", "ann", "root")), Account: one(d, of("", "phys", "lab")), Qos: one(d, of("", "normal")), Part: one(d, of("", "main", "big")),
		Nodes: one(d, of(1, 2, 1+d.below(32), 32)), Cores: one(d, of(1, 1+d.below(64), 64)), Limit: one(d, of(1, int64(1+d.below(99)), maxLimit)),
	}
	for range d.below(6) {
		s.Deps = append(s.Deps, api.Dep{Kind: api.DepKind(d.below(5)), Id: d.below(9) - 1})
	}
	return s
}
