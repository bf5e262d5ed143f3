package profile

import (
	"cmp"
	"math"
	"slices"

	"muster/api"
)

// never is when the last step of a step function ends.
const never = math.MaxInt64

// span is the times from from on, below to.
type span struct {
	from, to int64
}

// closedTimes are, node by node, the times at which it is not open for a.
func closedTimes(p [][]api.Cut, a api.Ask) [][]span {
	var closed [][]span
	for node := range len(p) {
		closed = append(closed, closedOf(p[node], node, a))
	}
	return closed
}

// closedOf are the times at which a node, whose step function is s, is not open for a: spans that rise and do not touch.
func closedOf(s []api.Cut, node int, a api.Ask) []span {
	var l []span
	// A window meets what is from begin on, below end, if it begins ahead of that end and ends behind that begin.
	shut := func(begin, end int64) {
		l = append(l, span{begin - a.Limit + 1, end})
	}
	for i := range len(s) {
		if s[i].Free < a.Cores {
			shut(s[i].At, endOf(s, i))
		}
	}
	for _, b := range a.Blocks {
		if has(b.Nodes, node) {
			shut(b.From, b.To)
		}
	}
	return joined(l)
}

// endOf is when the i-th step of s ends.
func endOf(s []api.Cut, i int) int64 {
	if i+1 < len(s) {
		return s[i+1].At
	}
	return never
}

// joined are the times of l, in spans that rise and do not touch; it sorts l.
func joined(l []span) []span {
	slices.SortFunc(l, func(a, b span) int { return cmp.Compare(a.from, b.from) })
	var apart []span
	for _, s := range l {
		last := len(apart) - 1
		if last >= 0 && s.from <= apart[last].to {
			apart[last].to = max(apart[last].to, s.to)
			continue
		}
		apart = append(apart, s)
	}
	return apart
}

// ahead are those of l, which rise, that are not over at t.
func ahead(l []span, t int64) []span {
	for len(l) > 0 && l[0].to <= t {
		l = l[1:]
	}
	return l
}

// closedTill is when the span that holds t ends, of l, which rise and are not over at t; false if none holds it.
func closedTill(l []span, t int64) (int64, bool) {
	if len(l) == 0 || t < l[0].from {
		return 0, false
	}
	return l[0].to, true
}
