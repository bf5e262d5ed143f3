package parts_test

import (
	"reflect"
	"slices"
	"sync"
	"testing"

	"muster/api"
	"muster/parts"
)

// specs are some that are let in, and some that are refused, for each error.
func specs() []api.Spec {
	return of(plain(), spec("main", "lab", 2, 4, 100), spec("big", "lab", 1, 8, 100), spec("big", "bio", 1, 8, 100), spec("x", "bio", 1, 1, 1), spec("main", "x", 1, 1, 1), spec("main", "bio", 2, 5, 1), spec("main", "bio", 1, 1, 101), spec("main", "bio", 0, 0, 0), api.Spec{})
}

// askAll makes all calls, with arguments that are answered and with some that are refused.
func askAll(c api.Config, who []string, all []api.Spec) {
	parts.Right(c)
	for _, name := range of("main", "big", "x", "") {
		parts.Find(c.Parts, name)
	}
	for _, account := range of("all", "phys", "bio", "lab", "x", "") {
		parts.Admits(c.Accounts, who, account)
		for _, p := range c.Parts {
			parts.Admits(c.Accounts, p.Accounts, account)
		}
	}
	for _, s := range all {
		parts.Check(c, s)
	}
}

// roomy is l with other elements ahead of it and behind it, in its spare room.
func roomy[T any](l []T, other T) (whole, part []T) {
	whole = append(whole, other, other, other)
	whole = append(whole, l...)
	whole = append(whole, other, other, other)
	return whole, whole[3 : 3+len(l)]
}

// handed is all lists that a call is handed, each with what stands ahead of it and behind it.
type handed struct {
	cores    []int
	parts    []api.Part
	users    [][]string
	accounts []api.Account
	qos      []api.Qos
	who      []string
	deps     []api.Dep
}

// handing is what the calls are handed, and all that they could change of it.
func handing(c api.Config) (h handed, handedC api.Config, who []string, all []api.Spec) {
	c = anew(c)
	for i := range c.Parts {
		var whole []string
		whole, c.Parts[i].Accounts = roomy(c.Parts[i].Accounts, "?")
		h.users = append(h.users, whole)
	}
	h.cores, c.Cores = roomy(c.Cores, -7)
	h.parts, c.Parts = roomy(c.Parts, part("?", 0, -7, "!", "!"))
	h.accounts, c.Accounts = roomy(c.Accounts, child("?", "!"))
	h.qos, c.Qos = roomy(c.Qos, quality("?"))
	h.who, who = roomy(of("lab", "bio", "lab"), "phys")
	var deps []api.Dep
	h.deps, deps = roomy(of(api.Dep{Kind: api.DepOk, Id: 3}, api.Dep{Kind: api.DepAny, Id: 1}), api.Dep{Kind: 9, Id: 9})
	all = specs()
	for i := range all {
		all[i].Deps = deps
	}
	return h, c, who, all
}

// R3: what is handed in is not changed, nor its spare room, nor what stands ahead of it.
func TestHandedInIsLeft(t *testing.T) {
	configs := wrongConfigs()
	for name, c := range rightConfigs() {
		configs[name] = c
	}
	fallen := chapters() // nothing in it stands sorted
	fallen.Parts = of(part("z", 1, 1, "lab", "bio", "all"), part("main", 3, 100), part("big", 2, 100, "phys", "bio"))
	fallen.Qos = of(quality("z"), quality("normal"), quality("a"))
	configs["the names fall"] = fallen
	for name, c := range configs {
		h, handedIn, who, all := handing(c)
		before, _, _, _ := handing(c)
		askAll(handedIn, who, all)
		if !reflect.DeepEqual(h, before) {
			t.Errorf("%s: changed", name)
		}
	}
}

// told is what the calls tell of c; these are numbers alone, so that answers have no memory to share.
type told struct {
	right, admits, has bool
	at                 int
	main, big, small   api.Errno
}

func toldOf(c api.Config, who []string) told {
	var x told
	x.right, x.admits = parts.Right(c), parts.Admits(c.Accounts, who, "lab")
	x.at, x.has = parts.Find(c.Parts, "big")
	x.main, x.big, x.small = parts.Check(c, spec("main", "bio", 2, 4, 100)), parts.Check(c, spec("big", "bio", 1, 8, 100)), parts.Check(c, spec("big", "lab", 1, 1, 1))
	return x
}

// R3: what was handed in is not kept: whatever becomes of it, later calls tell what stands there then, and the same of the same.
func TestHandedInIsNotKept(t *testing.T) {
	for range 3 {
		c, who := chapters(), of("bio", "phys")
		want := told{right: true, admits: true, has: true, at: 1, big: api.ErrAccess}
		check := func(what string) {
			t.Helper()
			if x := toldOf(c, who); x != want {
				t.Fatalf("%s: %v, not %v", what, x, want)
			}
		}
		check("the chapter's")
		who[1] = "x"
		want.admits = false
		check("others are named")
		c.Parts[1].Accounts[0] = "bio"
		want.big, want.small = api.OK, api.ErrAccess
		check("another account may use it")
		c.Accounts[3].Parent = "bio"
		want.admits, want.small = true, api.OK
		check("an account has another parent")
		c.Cores[0] = 3
		want.main = api.ErrLimit
		check("a node has fewer cores")
		c.Cores[0] = 5
		want.main = api.OK
		check("a node has more cores")
		c.Parts[0].MaxLimit = 99
		want.main = api.ErrLimit
		check("a partition lets less")
		c.Parts[1].Name = "other"
		want.at, want.has, want.big, want.small = 0, false, api.ErrName, api.ErrName
		check("a partition has another name")
		c.Qos[0].Name = "x"
		want.main = api.ErrName
		check("a quality has another name")
		c.Parts[1].Accounts[0] = "x"
		want.right, want.main, want.big, want.small = false, api.ErrConfig, api.ErrConfig, api.ErrConfig
		check("an account is not there")
	}
}

// R6: no list and the empty one are the same.
func TestEmptyAndNone(t *testing.T) {
	for name, change := range map[string]func(c *api.Config, none bool){
		"cores": func(c *api.Config, none bool) {
			if c.Cores = nil; !none {
				c.Cores = []int{}
			}
		},
		"parts": func(c *api.Config, none bool) {
			if c.Parts = nil; !none {
				c.Parts = []api.Part{}
			}
		},
		"accounts": func(c *api.Config, none bool) {
			if c.Accounts = nil; !none {
				c.Accounts = []api.Account{}
			}
		},
		"qualities": func(c *api.Config, none bool) {
			if c.Qos = nil; !none {
				c.Qos = []api.Qos{}
			}
		},
		"a partition's accounts": func(c *api.Config, none bool) {
			if c.Parts[1].Accounts = nil; !none {
				c.Parts[1].Accounts = []string{}
			}
		},
	} {
		a, b := chapters(), chapters()
		change(&a, true)
		change(&b, false)
		if toldOf(a, nil) != toldOf(b, []string{}) {
			t.Errorf("%s: they are told apart", name)
		}
	}
}

// R4: answers hang on nothing but the arguments: many callers of one config at one time are told the same as one.
func TestManyCallersAtOnce(t *testing.T) {
	d := dice(10)
	c := d.config()
	for len(c.Accounts) < 8 || len(c.Parts) < 4 || len(c.Cores) < 8 {
		c = d.config()
	}
	var group sync.WaitGroup
	for k := range 8 {
		group.Add(1)
		go func() {
			defer group.Done()
			d := dice(k)
			for range 500 {
				s, who := d.spec(c), d.users(c.Accounts)
				at, has := parts.Find(c.Parts, s.Part)
				wantAt, is := findOf(c.Parts, s.Part)
				if at != wantAt || has != is || parts.Check(c, s) != checkOf(c, s) || parts.Admits(c.Accounts, who, s.Account) != admitsOf(c.Accounts, who, s.Account) || !parts.Right(c) {
					t.Errorf("%v, %v: %d, %v", s, who, at, has)
					return
				}
			}
		}()
	}
	group.Wait()
}

// R1: long lists and long texts are answered, too.
func TestLongArgumentsEnd(t *testing.T) {
	c := chapters()
	long := string(slices.Repeat([]byte("a"), 1<<20))
	c.Parts[1].Accounts = slices.Repeat(of("phys"), 1<<16)
	if parts.Right(c) || parts.Check(c, plain()) != api.ErrConfig {
		t.Error("many accounts of a partition: it is right")
	}
	if !parts.Admits(c.Accounts, append(slices.Repeat(of("bio"), 1<<16), "phys"), "lab") || parts.Admits(c.Accounts, nil, long) {
		t.Error("many names, or a long one")
	}
	if at, has := parts.Find(append(partitions(1<<16), part(long, 0, 0)), long); at != 1<<16 || !has {
		t.Errorf("a long name, behind many: %d, %v", at, has)
	}
	s := plain()
	s.User = long
	if e := parts.Check(chapters(), s); e != api.ErrArg {
		t.Errorf("a long user: %d", e)
	}
}
