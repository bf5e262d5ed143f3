package parts_test

import (
	"testing"

	"muster/api"
	"muster/parts"
	"muster/profile"
)

// letIn asks for jobs of any configs till so many are let in, and hands each on with its config and partition.
func letIn(t *testing.T, d dice, times int, tell func(c api.Config, p api.Part, s api.Spec)) {
	t.Helper()
	count := 0
	for tries := 0; count < times; tries++ {
		if tries > 20*times {
			t.Fatalf("the test is wrong: of %d jobs %d are let in", tries, count)
		}
		c := d.config()
		s := d.spec(c)
		if parts.Check(c, s) != api.OK {
			continue
		}
		at, has := parts.Find(c.Parts, s.Part)
		if !has {
			t.Fatalf("%v, %v: let in, without a partition", c, s)
		}
		count++
		tell(c, c.Parts[at], s)
	}
}

// P16.3: a job that is let in has its nodes at once, if nothing runs, and all of them are its partition's.
func TestLetInFitsAnEmptyMachine(t *testing.T) {
	letIn(t, 6, 5000, func(c api.Config, p api.Part, s api.Spec) {
		free, err := profile.New(c.Cores)
		if err != api.OK {
			t.Fatalf("%v: %d", c, err)
		}
		at, on, err := profile.Fit(free, api.Ask{Count: s.Nodes, Cores: s.Cores, Limit: s.Limit, Nodes: p.Nodes})
		if err != api.OK || at != 0 || on == 0 || on&^p.Nodes != 0 {
			t.Fatalf("%v, %v: at %d on %b, %d", c, s, at, on, err)
		}
		if _, err := profile.Take(free, on, s.Cores, at, at+s.Limit); err != api.OK {
			t.Fatalf("%v, %v: it does not fit: %d", c, s, err)
		}
		count := 0
		for node, cores := range c.Cores {
			if on>>node&1 == 1 {
				count++
				if cores < s.Cores {
					t.Fatalf("%v, %v: node %d is too small", c, s, node)
				}
			}
		}
		if count != s.Nodes {
			t.Fatalf("%v, %v: %d nodes", c, s, count)
		}
	})
}

// P16.3: what is refused for its size alone does not fit, and what is refused for its time alone is longer than the partition lets.
func TestRefusedFitsNowhere(t *testing.T) {
	d := dice(7)
	big, long := 0, 0
	for range 30000 {
		c := d.config()
		s := d.spec(c)
		if parts.Check(c, s) != api.ErrLimit {
			continue
		}
		at, _ := parts.Find(c.Parts, s.Part)
		p := c.Parts[at]
		if s.Limit > p.MaxLimit {
			long++
			continue
		}
		big++
		free, err := profile.New(c.Cores)
		if err != api.OK {
			t.Fatalf("%v: %d", c, err)
		}
		if at, on, err := profile.Fit(free, api.Ask{Count: s.Nodes, Cores: s.Cores, Limit: s.Limit, Nodes: p.Nodes}); err != api.ErrOver {
			t.Fatalf("%v, %v: refused, and has its place at %d on %b, %d", c, s, at, on, err)
		}
	}
	if big < 1000 || long < 300 {
		t.Errorf("the test is wrong: %d are too big, %d too long", big, long)
	}
}

// P16.3: with fewer nodes, fewer cores, a shorter time, or all of that, what is let in is let in, too.
func TestLessIsLetIn(t *testing.T) {
	d := dice(8)
	letIn(t, 9, 5000, func(c api.Config, p api.Part, s api.Spec) {
		for range 4 {
			nodes, cores, shorter, all := s, s, s, s
			nodes.Nodes = 1 + d.below(s.Nodes)
			cores.Cores = 1 + d.below(s.Cores)
			shorter.Limit = 1 + int64(d.below(int(s.Limit)))
			all.Nodes, all.Cores, all.Limit = nodes.Nodes, cores.Cores, shorter.Limit
			for _, less := range of(nodes, cores, shorter, all) {
				if e := parts.Check(c, less); e != api.OK {
					t.Fatalf("%v: %v is let in, %v not: %d", c, s, less, e)
				}
			}
		}
		least := s
		least.Nodes, least.Cores, least.Limit = 1, 1, 1
		if e := parts.Check(c, least); e != api.OK {
			t.Fatalf("%v: %v is let in, %v not: %d", c, s, least, e)
		}
	})
}

// P16.3: of one config, all sizes from the least on: what is let in is so up to an edge, and nothing behind it.
func TestLetInUpToAnEdge(t *testing.T) {
	c := chapters()
	c.Cores = of(4, 8, 16, 2)
	c.Parts[0].Nodes, c.Parts[0].MaxLimit = 15, 3
	is := func(nodes, cores int, limit int64) bool {
		return parts.Check(c, spec("main", "bio", nodes, cores, limit)) == api.OK
	}
	count := 0
	for nodes := 1; nodes <= 6; nodes++ {
		for cores := 1; cores <= 20; cores++ {
			for limit := int64(1); limit <= 5; limit++ {
				if !is(nodes, cores, limit) {
					continue
				}
				count++
				if nodes > 1 && !is(nodes-1, cores, limit) || cores > 1 && !is(nodes, cores-1, limit) || limit > 1 && !is(nodes, cores, limit-1) {
					t.Errorf("%d nodes of %d cores for %d: let in, one less not", nodes, cores, limit)
				}
			}
		}
	}
	if count != 3*(16+8+4+2) {
		t.Errorf("%d are let in", count)
	}
}
