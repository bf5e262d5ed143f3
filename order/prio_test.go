package order_test

import (
	"strconv"
	"strings"
	"testing"

	"muster/api"
)

// wrongConfigs are such as are not right, each for one thing; partition main, quality normal and account all are in those that have any.
func wrongConfigs() map[string]api.Config {
	configs := map[string]api.Config{"nothing": {}}
	add := func(what string, change func(c *api.Config)) {
		c := chapters()
		change(&c)
		configs[what] = c
	}
	add("no cores", func(c *api.Config) { c.Cores = nil })
	add("a node without cores", func(c *api.Config) { c.Cores[1] = 0 })
	add("a node with 65 cores", func(c *api.Config) { c.Cores[1] = 65 })
	add("33 nodes", func(c *api.Config) { c.Cores = make([]int, 33) })
	add("no partition", func(c *api.Config) { c.Parts = nil })
	add("9 partitions", func(c *api.Config) {
		for i := len(c.Parts); i < maxParts+1; i++ {
			c.Parts = append(c.Parts, part("p"+strconv.Itoa(i), 0))
		}
	})
	add("a partition twice", func(c *api.Config) { c.Parts[1].Name = "main" })
	add("a partition without a name", func(c *api.Config) { c.Parts[1].Name = "" })
	add("a partition with a wrong name", func(c *api.Config) { c.Parts[1].Name = "Debug" })
	add("a partition without nodes", func(c *api.Config) { c.Parts[1].Nodes = 0 })
	add("a partition with a node that is not there", func(c *api.Config) { c.Parts[1].Nodes = 4 })
	add("a partition below Prio 0", func(c *api.Config) { c.Parts[1].Prio = -1 })
	add("a partition above Prio 1000", func(c *api.Config) { c.Parts[1].Prio = mostPrio + 1 })
	add("the asked partition above Prio 1000", func(c *api.Config) { c.Parts[0].Prio = mostPrio + 1 })
	add("a partition without time", func(c *api.Config) { c.Parts[1].MaxLimit = 0 })
	add("a partition with too much time", func(c *api.Config) { c.Parts[1].MaxLimit = 1<<20 + 1 })
	add("a partition for an account that is not there", func(c *api.Config) { c.Parts[1].Accounts = of("x") })
	add("no account", func(c *api.Config) { c.Accounts = nil })
	add("an account with a parent that is not there", func(c *api.Config) { c.Accounts[0].Parent = "x" })
	add("no quality", func(c *api.Config) { c.Qos = nil })
	add("9 qualities", func(c *api.Config) {
		for i := len(c.Qos); i < maxQos+1; i++ {
			c.Qos = append(c.Qos, quality("q"+strconv.Itoa(i), 0))
		}
	})
	add("a quality twice", func(c *api.Config) { c.Qos[1].Name = "normal" })
	add("a quality without a name", func(c *api.Config) { c.Qos[1].Name = "" })
	add("a quality below Prio 0", func(c *api.Config) { c.Qos[1].Prio = -1 })
	add("a quality above Prio 1000", func(c *api.Config) { c.Qos[1].Prio = mostPrio + 1 })
	add("the asked quality above Prio 1000", func(c *api.Config) { c.Qos[0].Prio = mostPrio + 1 })
	add("a quality with a wrong limit", func(c *api.Config) { c.Qos[1].Limit = -2 })
	add("no policy", func(c *api.Config) { c.Policy = 0 })
	add("a policy that is none", func(c *api.Config) { c.Policy = 4 })
	return configs
}

// P21.1: with a config that is not right the error is ErrConfig, whatever is asked for.
func TestPrioOfAWrongConfig(t *testing.T) {
	checkPrio(t, "a right one", chapters(), spec("main", "normal"), 0, api.OK)
	for what, c := range wrongConfigs() {
		for _, part := range of("main", "debug", "x", "") {
			for _, qos := range of("normal", "high", "x", "") {
				checkPrio(t, what, c, spec(part, qos), 0, api.ErrConfig)
			}
		}
	}
}

// P21.1: what is no partition, or no quality, or neither; names are alike byte by byte.
func TestPrioOfStrangeNames(t *testing.T) {
	c := chapters()
	c.Qos[0].Prio, c.Parts[0].Prio = 3, 1
	strange := func(name string) []string {
		return of("", "x", " ", "\x00", "all", name+" ", " "+name, name+"\x00", name[:len(name)-1], name+name, name+"s", strings.ToUpper(name), strings.ToUpper(name[:1])+name[1:], strings.Repeat(name, 1000))
	}
	for _, part := range append(strange("main"), "normal", "high") {
		checkPrio(t, "no partition", c, spec(part, "normal"), 0, api.ErrName)
		checkPrio(t, "no partition", c, spec(part, "high"), 0, api.ErrName)
		for _, qos := range append(strange("normal"), "main", "debug") {
			checkPrio(t, "neither", c, spec(part, qos), 0, api.ErrName)
		}
	}
	for _, qos := range append(strange("normal"), "main", "debug") {
		checkPrio(t, "no quality", c, spec("main", qos), 0, api.ErrName)
		checkPrio(t, "no quality", c, spec("debug", qos), 0, api.ErrName)
	}
	checkPrio(t, "both", c, spec("main", "normal"), 1004, api.OK)
}

// P21.1: a partition and a quality may have the same name; each is looked for in its own list.
func TestPrioOfOneNameForBoth(t *testing.T) {
	c := config(of(part("a", 1), part("b", 2), part("all", 3)), of(quality("b", 10), quality("a", 20), quality("all", 30)))
	for name, n := range map[[2]string]int{{"a", "a"}: 1021, {"a", "b"}: 1011, {"a", "all"}: 1031, {"b", "a"}: 2022, {"b", "b"}: 2012, {"b", "all"}: 2032, {"all", "a"}: 3023, {"all", "b"}: 3013, {"all", "all"}: 3033} {
		checkPrio(t, "one name for both", c, spec(name[0], name[1]), n, api.OK)
	}
}

// P21.1: the least and the greatest Prio, of the partition, of the quality and of both.
func TestPrioAtTheEdges(t *testing.T) {
	c := edges()
	for name, n := range map[[2]string]int{
		{"p0", "q0"}: 0, {"p0", "q1"}: 1, {"p0", "q999"}: 999, {"p0", "q1000"}: 1000,
		{"p1", "q0"}: 1001, {"p1", "q1"}: 1002, {"p1", "q1000"}: 2001, {"p2", "q0"}: 2002,
		{"p999", "q0"}: 999999, {"p999", "q1000"}: 1000999,
		{"p1000", "q0"}: 1001000, {"p1000", "q1"}: 1001001, {"p1000", "q999"}: 1001999, {"p1000", "q1000"}: 1002000,
		{"also0", "same0"}: 0, {"also0", "q1000"}: 1000, {"also1", "q0"}: 1001, {"p1", "same1"}: 1002, {"also1000", "same1000"}: 1002000,
	} {
		checkPrio(t, "edges", c, spec(name[0], name[1]), n, api.OK)
	}
}

// P21.1: each Prio of a partition with some of the qualities, and each of a quality with some of the partitions.
func TestPrioOfEach(t *testing.T) {
	c := edges()
	for n := range mostPrio + 1 {
		c.Parts[7].Prio, c.Qos[7].Prio = n, n
		for qos, more := range map[string]int{"q0": 0, "q1": 1, "q999": 999, "q1000": 1000, "q2": n} {
			checkPrio(t, "each of a partition", c, spec("p2", qos), n*1001+more, api.OK)
		}
		for part, more := range map[string]int{"p0": 0, "p1": 1001, "p999": 999999, "p1000": 1001000, "p2": n * 1001} {
			checkPrio(t, "each of a quality", c, spec(part, "q2"), more+n, api.OK)
		}
	}
}

// P21.1: any configs, right or not, and what is asked for of them, held against plain words.
func TestPrioOfAny(t *testing.T) {
	d := dice(1)
	told := map[api.Errno]int{}
	for range 20000 {
		c, right := d.anyConfig()
		for range 4 {
			s := d.spec(c)
			n, e := prioOf(c, right, s)
			checkPrio(t, "any", c, s, n, e)
			told[e]++
			if t.Failed() {
				t.Fatalf("%v", c)
			}
		}
	}
	for _, e := range of(api.OK, api.ErrConfig, api.ErrName) {
		if told[e] < 5000 {
			t.Errorf("the test is wrong: %d is told %d times", e, told[e])
		}
	}
}

// P21.1: nothing else is asked of what is asked for, nor of the config.
func TestPrioAsksNothingElse(t *testing.T) {
	c := chapters()
	c.Accounts = of(api.Account{Name: "all"}, api.Account{Name: "phys", Parent: "all"})
	for i := range c.Parts {
		c.Parts[i].Nodes, c.Parts[i].MaxLimit, c.Parts[i].Accounts = 1, 1, of("phys")
	}
	for i := range c.Qos {
		c.Qos[i].Limit, c.Qos[i].Jobs = 0, 0
	}
	for _, policy := range of(api.Fifo, api.Easy, api.Conservative) {
		c.Policy = policy
		for _, account := range of("phys", "all", "x", "") {
			for _, n := range of(-1, 0, 1, 1<<30) {
				s := api.Spec{User: "no name", Account: account, Part: "debug", Qos: "high", Nodes: n, Cores: n, Limit: int64(n), Deps: of(api.Dep{Kind: 9, Id: n})}
				checkPrio(t, "nothing else", c, s, 2007, api.OK)
				s.Qos = "x"
				checkPrio(t, "nothing else", c, s, 0, api.ErrName)
			}
		}
	}
}
