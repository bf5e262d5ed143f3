package nodes_test

import (
	"slices"
	"testing"

	"muster/api"
	"muster/nodes"
)

// P13.4: a node goes down and up by turns, whatever is asked; its Epoch is one more than how often it came up.
func TestByTurns(t *testing.T) {
	d := dice(6)
	for range 200 {
		var cores []int
		for range 1 + d.below(maxNodes) {
			cores = append(cores, 1+d.below(maxCores))
		}
		l, e := nodes.New(cores)
		if e != api.OK {
			t.Fatalf("New(%v): %d", cores, e)
		}
		isUp, came := times(len(cores), true), make([]int, len(cores))
		for range 300 {
			i := d.below(len(cores))
			if d.below(3) == 0 {
				i = 0 // so that one of them goes down and up often
			}
			do, may := nodes.Fail, isUp[i]
			if d.below(2) == 0 {
				do, may = nodes.Rise, !isUp[i]
			}
			m, e := do(l, i)
			if may != (e == api.OK) || !may && (e != api.ErrState || len(m) != 0) {
				t.Fatalf("%v, %d: %v, %d", l, i, m, e)
			}
			if !may {
				continue
			}
			if l, isUp[i] = m, !isUp[i]; isUp[i] {
				came[i]++
			}
			checkPast(t, l, cores, isUp, came)
		}
	}
}

// checkPast asks of l all that its past says.
func checkPast(t *testing.T, l []api.Node, cores []int, isUp []bool, came []int) {
	t.Helper()
	if !nodes.Right(l) || !isRight(l) || !slices.Equal(nodes.Cores(l), cores) {
		t.Fatalf("%v: is not right, or has not %v", l, cores)
	}
	s := nodes.Up(l)
	for i, n := range l {
		if n.Up != isUp[i] || has(s, i) != isUp[i] || n.Epoch != came[i]+1 {
			t.Fatalf("node %d is %v; up: %v, came up %d times", i, n, isUp[i], came[i])
		}
	}
}

// P13.4: one node, many times; the others are left as they are.
func TestManyTimes(t *testing.T) {
	l, _ := nodes.New([]int{4, 8, 2})
	for came := range 5000 {
		want := of(up(4, 1), up(8, came+1), up(2, 1))
		if !slices.Equal(l, want) {
			t.Fatalf("%d times: %v", came, l)
		}
		fallen, e := nodes.Fail(l, 1)
		if e != api.OK || !slices.Equal(fallen, put(want, 1, down(8, came+1))) || nodes.Up(fallen) != 5 {
			t.Fatalf("%d times: down: %v, %d", came, fallen, e)
		}
		if l, e = nodes.Rise(fallen, 1); e != api.OK || nodes.Up(l) != 7 {
			t.Fatalf("%d times: up: %v, %d", came, l, e)
		}
	}
}

// P13.4: the last Epoch is reached, goes down, and never comes up again.
func TestLastEpoch(t *testing.T) {
	l := of(up(4, lastEpoch-2), up(4, 1))
	for _, epoch := range []int{lastEpoch - 1, lastEpoch} {
		fallen, e := nodes.Fail(l, 0)
		var f api.Errno
		if l, f = nodes.Rise(fallen, 0); e != api.OK || f != api.OK || !slices.Equal(l, of(up(4, epoch), up(4, 1))) || !nodes.Right(l) {
			t.Fatalf("%d: %v, %d, %d", epoch, l, e, f)
		}
	}
	l, e := nodes.Fail(l, 0)
	if e != api.OK || !slices.Equal(l, of(down(4, lastEpoch), up(4, 1))) || !nodes.Right(l) {
		t.Fatalf("down: %v, %d", l, e)
	}
	for range 3 {
		if m, e := nodes.Rise(l, 0); e != api.ErrOver || len(m) != 0 {
			t.Errorf("up: %v, %d", m, e)
		}
		if m, e := nodes.Fail(l, 0); e != api.ErrState || len(m) != 0 {
			t.Errorf("down: %v, %d", m, e)
		}
	}
	if m, e := nodes.Fail(l, 1); e != api.OK || !slices.Equal(m, of(down(4, lastEpoch), down(4, 1))) {
		t.Errorf("the other one: %v, %d", m, e)
	}
}

// P13.3 and P13.4: what New, Fail and Rise tell is right, from any right list on, and of unlike nodes the order does not matter.
func TestWhatIsToldIsRight(t *testing.T) {
	d := dice(7)
	turn := func(l []api.Node, i int) []api.Node {
		do := nodes.Rise
		if l[i].Up {
			do = nodes.Fail
		}
		m, e := do(l, i)
		if e == api.ErrOver && !l[i].Up && l[i].Epoch == lastEpoch {
			return l
		}
		if e != api.OK || !nodes.Right(m) || !isRight(m) || len(m) != len(l) || m[i].Up == l[i].Up {
			t.Fatalf("%v, %d: %v, %d", l, i, m, e)
		}
		return m
	}
	for range 10000 {
		l := d.list(maxNodes)
		i, j := d.below(len(l)), d.below(len(l))
		if i != j && !slices.Equal(turn(turn(l, i), j), turn(turn(l, j), i)) {
			t.Fatalf("%v: %d and %d, and the other way about", l, i, j)
		}
	}
}

// The chapter's examples, word by word.
func TestExamples(t *testing.T) {
	l, e := nodes.New([]int{4, 8})
	if e != api.OK || !slices.Equal(l, of(up(4, 1), up(8, 1))) || nodes.Able(l, 3, 5) != 2 {
		t.Errorf("%v, %d", l, e)
	}
	l, e = nodes.Fail(l, 0)
	if e != api.OK || nodes.Up(l) != 2 || nodes.Able(l, 3, 5) != 2 {
		t.Errorf("Fail 0: %v, %d", l, e)
	}
	if _, e := nodes.Fail(l, 0); e != api.ErrState {
		t.Errorf("Fail 0 again: %d", e)
	}
	l, e = nodes.Rise(l, 0)
	if e != api.OK || !l[0].Up || l[0].Epoch != 2 || nodes.Up(l) != 3 {
		t.Errorf("Rise 0: %v, %d", l, e)
	}
	if _, e := nodes.Rise(l, 0); e != api.ErrState {
		t.Errorf("Rise 0 again: %d", e)
	}
	if _, e := nodes.Rise(l, 2); e != api.ErrArg {
		t.Errorf("Rise 2: %d", e)
	}
}
