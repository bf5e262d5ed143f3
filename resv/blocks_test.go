package resv_test

import (
	"math"
	"slices"
	"strconv"
	"testing"

	"muster/api"
	"muster/resv"
	"muster/tree"
)

// admitted tells whether accounts are a right tree, account is one of them, and who are none or one of who is met on the way up from it.
func admitted(accounts []api.Account, who []string, account string) bool {
	if !tree.Right(accounts) || !hasAccount(accounts, account) {
		return false
	}
	found := len(who) == 0
	for i := len(accounts) - 1; i >= 0; i-- {
		if accounts[i].Name == account {
			found = found || slices.Contains(who, account)
			account = accounts[i].Parent
		}
	}
	return found
}

// blocksOf is Blocks in plain words.
func blocksOf(c api.Config, l []api.Resv, account string) []api.Block {
	var all []api.Block
	for _, r := range l {
		if !admitted(c.Accounts, r.Accounts, account) {
			all = append(all, api.Block{Nodes: r.Nodes, From: r.From, To: r.To})
		}
	}
	return all
}

// meetsOf is Meets in plain words.
func meetsOf(c api.Config, r api.Resv, account string, on api.Set, from, to int64) bool {
	return !admitted(c.Accounts, r.Accounts, account) && sharesNode(r.Nodes, on) && sharesTime(r.From, r.To, from, to)
}

// by is a job's spec, of which its account alone is asked.
func by(account string) api.Spec { return api.Spec{Account: account} }

// checkBlocks asks Blocks, of which it is told what it answers.
func checkBlocks(t *testing.T, what string, c api.Config, l []api.Resv, account string, want ...api.Block) {
	t.Helper()
	for range 2 {
		if b := resv.Blocks(c, l, account); !slices.Equal(b, want) {
			t.Errorf("%s: %v, not %v", what, b, want)
		}
	}
	if b := blocksOf(c, l, account); !slices.Equal(b, want) {
		t.Errorf("%s: the test is wrong: %v", what, b)
	}
}

// checkMeets asks Meets, of which it is told what it answers.
func checkMeets(t *testing.T, what string, c api.Config, r api.Resv, account string, on api.Set, from, to int64, want bool) {
	t.Helper()
	for range 2 {
		if is := resv.Meets(c, r, by(account), on, from, to); is != want {
			t.Errorf("%s: %v", what, is)
		}
	}
	if is := meetsOf(c, r, account, on, from, to); is != want {
		t.Errorf("%s: the test is wrong: %v", what, is)
	}
}

// P17.3: Blocks for the account that is admitted, below it, above it, beside it, and for one that is not there.
func TestBlocks(t *testing.T) {
	c := chapters()
	block := api.Block{Nodes: 2, From: 10, To: 20}
	for account, want := range map[string][]api.Block{"phys": nil, "lab": nil, "all": of(block), "bio": of(block), "x": of(block), "": of(block), "Phys": of(block), "phys ": of(block), "main": of(block)} {
		checkBlocks(t, "x for "+strconv.Quote(account), c, of(x()), account, want...)
	}
	l := of(held("a", 1, 0, 5, "bio"), held("b", 3, 5, 9, "lab", "bio"), held("c", 1, 9, 99, "all"), x(), held("y", 2, 20, maxTime, "lab"))
	a, b, every, mine, late := api.Block{Nodes: 1, To: 5}, api.Block{Nodes: 3, From: 5, To: 9}, api.Block{Nodes: 1, From: 9, To: 99}, block, api.Block{Nodes: 2, From: 20, To: maxTime}
	for account, want := range map[string][]api.Block{"bio": of(mine, late), "lab": of(a), "phys": of(a, b, late), "all": of(a, b, mine, late), "x": of(a, b, every, mine, late), "": of(a, b, every, mine, late)} {
		checkBlocks(t, "five for "+strconv.Quote(account), c, l, account, want...)
	}
	for _, account := range of("bio", "x", "") {
		checkBlocks(t, "none for "+account, c, nil, account)
		checkBlocks(t, "an empty list for "+account, c, of[api.Resv](), account)
	}
}

// P17.3: Blocks of whatever stands in a list, in order, as often as it stands there.
func TestBlocksOfWhatIsNotRight(t *testing.T) {
	c := chapters()
	b := api.Block{Nodes: 2, From: 10, To: 20}
	strange := of(x(), held("X", 0, 30, 20, "x"), x(), held("a", math.MaxUint32, -5, math.MaxInt64, "", "phys"), held("", 4, 7, 7, "phys", "phys"))
	odd, wide := api.Block{From: 30, To: 20}, api.Block{Nodes: math.MaxUint32, From: -5, To: math.MaxInt64}
	checkBlocks(t, "bio", c, strange, "bio", b, odd, b, wide, api.Block{Nodes: 4, From: 7, To: 7})
	checkBlocks(t, "lab", c, strange, "lab", odd)
	checkBlocks(t, "no accounts: it admits all that are there", c, of(held("a", 1, 0, 1)), "bio")
	checkBlocks(t, "no accounts, for one that is not there", c, of(held("a", 1, 0, 1)), "x", api.Block{Nodes: 1, To: 1})
	checkBlocks(t, "an account that is not there, and is named", c, of(held("a", 1, 0, 1, "x")), "x", api.Block{Nodes: 1, To: 1})
	long := resv.Blocks(c, row(90, "phys"), "bio")
	if len(long) != 90 || long[89] != (api.Block{Nodes: 1, From: 890, To: 900}) || len(resv.Blocks(c, row(90, "phys"), "lab")) != 0 {
		t.Errorf("90 of them: %v", long)
	}
}

// P17.3: of the config its accounts alone are asked: if they are no right tree, nobody is admitted.
func TestConfigsOfBlocksAndMeets(t *testing.T) {
	b := api.Block{Nodes: 2, From: 10, To: 20}
	for name, c := range wrongConfigs() {
		if tree.Right(c.Accounts) {
			checkBlocks(t, name, c, of(x()), "lab")
			checkMeets(t, name, c, x(), "lab", 2, 10, 20, false)
		} else {
			checkBlocks(t, name, c, of(x(), held("y", 2, 10, 20)), "lab", b, b)
			checkMeets(t, name, c, x(), "lab", 2, 10, 20, true)
			checkMeets(t, name+", no accounts", c, held("y", 2, 10, 20), "lab", 2, 10, 20, true)
		}
		checkBlocks(t, name, c, of(x()), "bio", b)
		checkMeets(t, name, c, x(), "bio", 2, 10, 20, true)
	}
}

// P17.3: Meets for the account that is admitted, below it, above it, beside it, and for one that is not there.
func TestMeetsByAccount(t *testing.T) {
	for account, want := range map[string]bool{"phys": false, "lab": false, "all": true, "bio": true, "x": true, "": true, "Phys": true, "phys ": true} {
		for _, on := range of[api.Set](2, 3, math.MaxUint32) {
			checkMeets(t, "for "+strconv.Quote(account), chapters(), x(), account, on, 10, 20, want)
			checkMeets(t, "another node for "+strconv.Quote(account), chapters(), x(), account, on&^2, 10, 20, false)
			checkMeets(t, "another time for "+strconv.Quote(account), chapters(), x(), account, on, 20, 30, false)
		}
	}
	for name, who := range map[string][]string{"the last of some": {"bio", "phys"}, "the first of some": {"lab", "bio"}, "its root": {"all"}, "nobody is named": nil} {
		checkMeets(t, name, chapters(), held("r", 2, 10, 20, who...), "lab", 2, 10, 20, false)
	}
	checkMeets(t, "nobody is named, for one that is not there", chapters(), held("r", 2, 10, 20), "x", 2, 10, 20, true)
}

// P17.3: Meets with windows that touch, overlap by one moment, are within, around, or have no length.
func TestMeetsByTime(t *testing.T) {
	for name, x := range map[string]struct {
		from, to int64
		want     bool
	}{
		"the same":                  {10, 20, true},
		"its first moment":          {0, 11, true},
		"its first moment alone":    {10, 11, true},
		"its last moment":           {19, 99, true},
		"its last moment alone":     {19, 20, true},
		"within":                    {14, 16, true},
		"around":                    {9, 21, true},
		"all time":                  {0, maxTime, true},
		"all numbers":               {math.MinInt64, math.MaxInt64, true},
		"from below 0 on":           {-5, 11, true},
		"far beyond time":           {15, 2 * maxTime, true},
		"touches its beginning":     {0, 10, false},
		"touches its end":           {20, 30, false},
		"ahead":                     {0, 5, false},
		"behind":                    {30, 40, false},
		"below 0":                   {-20, -10, false},
		"beyond time":               {maxTime, 2 * maxTime, false},
		"no length, within":         {15, 15, false},
		"no length, at its From":    {10, 10, false},
		"no length, at its To":      {20, 20, false},
		"no length, at its last":    {19, 19, false},
		"turned about":              {20, 10, false},
		"turned about, within":      {16, 14, false},
		"turned about, around":      {25, 5, false},
		"turned about, all numbers": {math.MaxInt64, math.MinInt64, false},
	} {
		for _, shift := range of[int64](0, 1, 1000, maxTime-20) {
			r := held("r", 2, 10+shift, 20+shift, "phys")
			if from, to := x.from+shift, x.to+shift; (from < to) == (x.from < x.to) { // it did not wrap
				checkMeets(t, name, chapters(), r, "bio", 2, from, to, x.want)
				checkMeets(t, name+", another node", chapters(), r, "bio", 1, from, to, false)
				checkMeets(t, name+", one that is admitted", chapters(), r, "lab", 2, from, to, false)
			}
		}
	}
	for from := range int64(12) {
		for to := range int64(12) {
			shared := false
			for moment := from; moment < to; moment++ {
				shared = shared || moment >= 4 && moment < 8
			}
			checkMeets(t, strconv.Itoa(int(from))+" to "+strconv.Itoa(int(to)), chapters(), held("r", 1, 4, 8, "phys"), "bio", 1, from, to, shared)
			checkMeets(t, "a reservation of no length", chapters(), held("r", 1, 5, 5, "phys"), "bio", 1, from, to, false)
			checkMeets(t, "a reservation turned about", chapters(), held("r", 1, 8, 4, "phys"), "bio", 1, from, to, false)
		}
	}
}

// P17.3: Meets with each two nodes, with none, and with many.
func TestMeetsByNode(t *testing.T) {
	c := great()
	for a := range maxNodes {
		for b := range maxNodes {
			what := strconv.Itoa(a) + " and " + strconv.Itoa(b)
			r := held("r", 1<<a, 0, 9, numbered(1))
			checkMeets(t, what, c, r, numbered(0), 1<<b, 8, 12, a == b)
			checkMeets(t, what+", all but it", c, r, numbered(0), ^api.Set(1<<b), 8, 12, a != b)
			checkMeets(t, what+", both", c, r, numbered(0), 1<<a|1<<b, 8, 12, true)
		}
		checkMeets(t, "none", c, held("r", 1<<a, 0, 9, numbered(1)), numbered(0), 0, 8, 12, false)
		checkMeets(t, "none of it", c, held("r", 0, 0, 9, numbered(1)), numbered(0), 1<<a, 8, 12, false)
	}
	checkMeets(t, "a node that the config does not tell", chapters(), held("r", 1<<31, 0, 9, "phys"), "bio", 1<<31, 8, 12, true)
}

// P17.3: of a reservation its name, and of a spec all but its account, is not asked.
func TestOthersAreNotAsked(t *testing.T) {
	for _, name := range append(slices.Clone(rightNames), wrongNames...) {
		r := x()
		r.Name = name
		checkBlocks(t, strconv.Quote(name), chapters(), of(r), "bio", api.Block{Nodes: 2, From: 10, To: 20})
		checkMeets(t, strconv.Quote(name), chapters(), r, "bio", 2, 19, 21, true)
	}
	for i, s := range of(api.Spec{User: "lab", Part: "x", Qos: "phys", Nodes: 7, Cores: -1, Limit: 1}, api.Spec{User: "phys", Part: "main", Limit: -1, Deps: make([]api.Dep, 9)}) {
		for account, want := range map[string]bool{"bio": true, "lab": false} {
			s.Account = account
			if is := resv.Meets(chapters(), x(), s, 2, 19, 21); is != want {
				t.Errorf("spec %d for %s: %v", i, account, is)
			}
		}
	}
}

// P17.3: any configs, lists, accounts and windows.
func TestBlocksAndMeetsOfAny(t *testing.T) {
	d := dice(4)
	some, met, missed := 0, 0, 0
	for range 20000 {
		c := d.config()
		l := d.resvs(c, maxResvs)
		if d.below(3) == 0 {
			l = d.strange(c)
		}
		account := one(&d, c.Accounts).Name
		if d.below(12) == 0 {
			account = one(&d, of("", d.name()))
		}
		if d.below(20) == 0 {
			c.Accounts = append(c.Accounts, one(&d, c.Accounts)) // no right tree any more
		}
		want := blocksOf(c, l, account)
		if b := resv.Blocks(c, l, account); !slices.Equal(b, want) {
			t.Fatalf("Blocks(%v, %v, %q) = %v, not %v", c, l, account, b, want)
		}
		if len(want) > 0 && len(want) < len(l) {
			some++
		}
		for _, r := range l {
			from, to := d.window()
			on := d.nodes(maxNodes)
			is := resv.Meets(c, r, by(account), on, from, to)
			if is != meetsOf(c, r, account, on, from, to) {
				t.Fatalf("Meets(%v, %v, %q, %b, %d, %d) = %v", c, r, account, on, from, to, is)
			}
			if is {
				met++
			} else {
				missed++
			}
		}
	}
	if some < 3000 || met < 3000 || missed < 3000 {
		t.Errorf("the test is wrong: %d lists block in part, %d windows meet, %d do not", some, met, missed)
	}
}
