package resv_test

import (
	"math"
	"slices"
	"strconv"
	"testing"

	"muster/api"
	"muster/resv"
)

// addOf is Add in plain words.
func addOf(c api.Config, l []api.Resv, r api.Resv, now int64) ([]api.Resv, api.Errno) {
	switch {
	case !isRight(c, l):
		return nil, api.ErrConfig
	case !may(c, r) || now >= r.To:
		return nil, api.ErrArg
	case slices.ContainsFunc(l, func(other api.Resv) bool { return other.Name == r.Name }):
		return nil, api.ErrTwice
	case len(l) == maxResvs:
		return nil, api.ErrFull
	case slices.ContainsFunc(l, func(other api.Resv) bool { return clashOf(other, r) }):
		return nil, api.ErrClash
	}
	place := 0
	for place < len(l) && l[place].Name < r.Name {
		place++
	}
	return slices.Insert(anew(l), place, r), api.OK
}

// checkAdd asks Add, of which it is told what it answers.
func checkAdd(t *testing.T, what string, c api.Config, l []api.Resv, r api.Resv, now int64, want []api.Resv, err api.Errno) {
	t.Helper()
	for range 2 {
		with, e := resv.Add(c, l, r, now)
		if e != err || !same(with, want) || e != api.OK && with != nil {
			t.Errorf("%s: %v, %d, not %v, %d", what, with, e, want, err)
		}
	}
	if with, e := addOf(c, l, r, now); e != err || !same(with, want) {
		t.Errorf("%s: the test is wrong: %v, %d", what, with, e)
	}
}

// P17.1: the chapter's examples of Add.
func TestChaptersAdd(t *testing.T) {
	c, l := chapters(), of(x())
	checkAdd(t, "x", c, nil, x(), 0, l, api.OK)
	touching, early, aside := held("y", 2, 20, 30, "bio"), held("y", 2, 19, 30, "bio"), held("a", 1, 0, 99, "bio")
	checkAdd(t, "from 20 to 30", c, l, touching, 0, of(x(), touching), api.OK)
	checkAdd(t, "from 19", c, l, early, 0, nil, api.ErrClash)
	checkAdd(t, "of node 0", c, l, aside, 0, of(aside, x()), api.OK)
}

// P17.1: ErrConfig of each config and each list that is not right, whatever is added.
func TestAddToWhatIsNotRight(t *testing.T) {
	other := held("b", 1, 300, 400, "bio")
	for name, c := range wrongConfigs() {
		for _, r := range of(other, x(), api.Resv{}) {
			checkAdd(t, name, c, nil, r, 0, nil, api.ErrConfig)
			checkAdd(t, name+", to one", c, of(x()), r, 0, nil, api.ErrConfig)
		}
	}
	for name, l := range wrongLists() {
		for _, r := range of(other, x(), api.Resv{}) {
			checkAdd(t, name, chapters(), l, r, 0, nil, api.ErrConfig)
		}
	}
	for name, l := range rightLists() {
		want, err := addOf(chapters(), l, other, 0)
		if err == api.ErrConfig {
			t.Errorf("%s: the test is wrong", name)
		}
		checkAdd(t, name, chapters(), l, other, 0, want, err)
	}
}

// P17.1: ErrArg unless it may be.
func TestAddOfWhatMayNotBe(t *testing.T) {
	for name, change := range wrongResvs() {
		r := x()
		change(&r)
		for _, now := range of[int64](math.MinInt64, -1, 0) {
			checkAdd(t, name, chapters(), nil, r, now, nil, api.ErrArg)
			checkAdd(t, name+", to one", chapters(), of(held("a", 1, 0, 5, "bio")), r, now, nil, api.ErrArg)
		}
	}
	for name, change := range rightResvs() {
		r := x()
		change(&r)
		checkAdd(t, name, chapters(), nil, r, 0, of(r), api.OK)
	}
	c := great()
	for count := range maxAccounts + 1 {
		r := held("r", 1<<31, 0, 1, numberedAll(count)...)
		if count >= 1 && count <= maxAccess {
			checkAdd(t, strconv.Itoa(count)+" accounts", c, nil, r, 0, of(r), api.OK)
		} else {
			checkAdd(t, strconv.Itoa(count)+" accounts", c, nil, r, 0, nil, api.ErrArg)
		}
	}
}

// P17.1: ErrArg unless it ends above now; where it begins, and what of the list is over, is not asked.
func TestAddByNow(t *testing.T) {
	for _, window := range [][2]int64{{10, 20}, {0, 1}, {0, maxTime}, {maxTime - 1, maxTime}} {
		r := held("r", 1, window[0], window[1], "bio")
		for _, now := range of(math.MinInt64, -1, 0, 1, r.From-1, r.From, r.From+1, r.To-1, r.To, r.To+1, maxTime, maxTime+1, math.MaxInt64) {
			what := strconv.FormatInt(r.From, 10) + " to " + strconv.FormatInt(r.To, 10) + " at " + strconv.FormatInt(now, 10)
			if now < r.To {
				checkAdd(t, what, chapters(), of(x()), r, now, of(r, x()), api.OK)
			} else {
				checkAdd(t, what, chapters(), of(x()), r, now, nil, api.ErrArg)
			}
		}
	}
	late := held("a", 2, 40, 60, "bio")
	checkAdd(t, "x is over, and stands", chapters(), of(x()), late, 50, of(late, x()), api.OK)
	checkAdd(t, "x is over, and clashes", chapters(), of(x()), held("a", 2, 0, 60, "bio"), 50, nil, api.ErrClash)
}

// P17.1: ErrTwice with the name of each in a list, ErrFull of a list that is full, and of none with one less.
func TestAddTwiceAndToAFullList(t *testing.T) {
	c, full, less := chapters(), row(maxResvs, "bio"), row(maxResvs-1, "bio")
	for _, name := range numberedAll(maxResvs) {
		checkAdd(t, "twice, full: "+name, c, full, held(name, 2, 0, 1, "bio"), 0, nil, api.ErrTwice)
	}
	for _, name := range numberedAll(maxResvs - 1) {
		checkAdd(t, "twice: "+name, c, less, held(name, 2, 0, 1, "bio"), 0, nil, api.ErrTwice)
	}
	for _, name := range of("a", "a05-", "z", numbered(maxResvs)) {
		r := held(name, 2, 0, 1, "bio")
		checkAdd(t, "full: "+name, c, full, r, 0, nil, api.ErrFull)
		want, _ := addOf(c, less, r, 0)
		checkAdd(t, "not full: "+name, c, less, r, 0, want, api.OK)
		if len(want) != maxResvs {
			t.Errorf("%s: the test is wrong: %v", name, want)
		}
	}
}

// P17.1: into each place: ahead of all, among them, behind all, by bytes.
func TestAddInItsPlace(t *testing.T) {
	c := chapters()
	l := of(held("b", 1, 0, 10, "bio"), held("d", 1, 10, 20, "bio"), held("f", 1, 20, 30, "lab", "bio"))
	for name, place := range map[string]int{"a": 0, "a9": 0, "azzzzzzzzzzzzzzz": 0, "b-": 1, "b0": 1, "c": 1, "czz": 1, "d0": 2, "e": 2, "eb": 2, "f-": 3, "f_": 3, "g": 3, "z": 3} {
		r := held(name, 1, 30, 40, "phys", "all")
		checkAdd(t, name, c, l, r, 0, slices.Insert(anew(l), place, r), api.OK)
	}
	for place := range maxResvs {
		full := row(maxResvs, "bio")
		checkAdd(t, "place "+strconv.Itoa(place)+" of a list that gets full", c, slices.Delete(row(maxResvs, "bio"), place, place+1), full[place], 0, full, api.OK)
	}
}

// P17.1: ErrClash by one node and one moment, with each in the list; none where there is no node or no moment in common.
func TestAddThatClashes(t *testing.T) {
	c, l := chapters(), row(8, "bio")
	for i, other := range l {
		l := slices.Delete(row(8, "bio"), max(0, i-1), min(8, i+2)) // so that it clashes with that one alone
		l = append(l, other)
		slices.SortFunc(l, func(a, b api.Resv) int { return int(a.From - b.From) })
		for name, window := range map[string][2]int64{"its first moment": {max(0, other.From-9), other.From + 1}, "its last moment": {other.To - 1, other.To + 9}, "one in it": {other.From + 4, other.From + 5}, "all of it": {other.From, other.To}} {
			checkAdd(t, name+" of "+other.Name, c, l, held("z", 1, window[0], window[1], "bio"), 0, nil, api.ErrClash)
			checkAdd(t, name+" of "+other.Name+", both nodes", c, l, held("a", 3, window[0], window[1], "bio"), 0, nil, api.ErrClash)
			aside := held("z", 2, window[0], window[1], "bio")
			checkAdd(t, name+" of "+other.Name+", another node", c, l, aside, 0, append(anew(l), aside), api.OK)
		}
	}
	gap := append(row(3, "bio"), held("b", 1, 40, 50, "bio"))
	into := held("z", 1, 30, 40, "bio")
	checkAdd(t, "between two, touching both", c, gap, into, 0, append(anew(gap), into), api.OK)
	checkAdd(t, "one earlier", c, gap, held("z", 1, 29, 40, "bio"), 0, nil, api.ErrClash)
	checkAdd(t, "one later", c, gap, held("z", 1, 30, 41, "bio"), 0, nil, api.ErrClash)
	for a := range maxNodes {
		for b := range maxNodes {
			l, r := of(held("a", 1<<a, 5, 9, numbered(0))), held("b", 1<<b, 8, 12, numbered(0))
			want, err := addOf(great(), l, r, 0)
			if (err == api.ErrClash) != (a == b) {
				t.Fatalf("the test is wrong: %d, %d: %d", a, b, err)
			}
			checkAdd(t, "nodes "+strconv.Itoa(a)+" and "+strconv.Itoa(b), great(), l, r, 0, want, err)
		}
	}
}

// faults are what makes each error of Add, from the one that is told first on. All begin with a row of MaxResvs less one, and one that may be added.
func faults() []struct {
	err    api.Errno
	change []func(c *api.Config, l *[]api.Resv, r *api.Resv, now *int64)
} {
	type change = func(c *api.Config, l *[]api.Resv, r *api.Resv, now *int64)
	return []struct {
		err    api.Errno
		change []change
	}{
		{api.ErrConfig, []change{
			func(c *api.Config, l *[]api.Resv, r *api.Resv, now *int64) { c.Policy = 0 },
			func(c *api.Config, l *[]api.Resv, r *api.Resv, now *int64) { (*l)[3].Accounts = nil },
			func(c *api.Config, l *[]api.Resv, r *api.Resv, now *int64) { (*l)[3].From-- },
			func(c *api.Config, l *[]api.Resv, r *api.Resv, now *int64) { (*l)[3].Name = (*l)[2].Name },
		}},
		{api.ErrArg, []change{
			func(c *api.Config, l *[]api.Resv, r *api.Resv, now *int64) { *now = r.To },
			func(c *api.Config, l *[]api.Resv, r *api.Resv, now *int64) { r.Nodes |= 4 },
			func(c *api.Config, l *[]api.Resv, r *api.Resv, now *int64) { r.To = maxTime + 1 },
			func(c *api.Config, l *[]api.Resv, r *api.Resv, now *int64) { r.From = -1 },
			func(c *api.Config, l *[]api.Resv, r *api.Resv, now *int64) { r.Accounts = of("bio", "bio") },
		}},
		{api.ErrTwice, []change{
			func(c *api.Config, l *[]api.Resv, r *api.Resv, now *int64) { r.Name = (*l)[0].Name },
			func(c *api.Config, l *[]api.Resv, r *api.Resv, now *int64) { r.Name = (*l)[14].Name },
		}},
		{api.ErrFull, []change{
			func(c *api.Config, l *[]api.Resv, r *api.Resv, now *int64) {
				*l = append((*l)[:15], held("z", 2, 500, 501, "lab"))
			},
		}},
		{api.ErrClash, []change{
			func(c *api.Config, l *[]api.Resv, r *api.Resv, now *int64) { r.Nodes |= 1 },
			func(c *api.Config, l *[]api.Resv, r *api.Resv, now *int64) { r.Nodes, r.From, r.To = 1, 149, 160 },
		}},
	}
}

// P17.1: which error comes first where two hold, and where all do.
func TestAddTellsTheFirst(t *testing.T) {
	all := faults()
	begin := func() (api.Config, []api.Resv, api.Resv, int64) {
		return chapters(), row(maxResvs-1, "bio"), held("m", 2, 0, 200, "phys"), 0
	}
	for i, first := range all {
		for _, other := range all[i:] {
			for n, change := range first.change {
				for m, also := range other.change {
					c, l, r, now := begin()
					also(&c, &l, &r, &now)
					change(&c, &l, &r, &now)
					checkAdd(t, strconv.Itoa(int(first.err))+", way "+strconv.Itoa(n)+", beside "+strconv.Itoa(int(other.err))+", way "+strconv.Itoa(m), c, l, r, now, nil, first.err)
				}
			}
		}
		c, l, r, now := begin()
		for k := len(all) - 1; k >= i; k-- {
			all[k].change[0](&c, &l, &r, &now)
		}
		checkAdd(t, strconv.Itoa(int(first.err))+" and all behind it", c, l, r, now, nil, first.err)
	}
	c, l, r, now := begin()
	checkAdd(t, "no fault", c, l, r, now, append(anew(l), r), api.OK)
}

// P17.1: any configs, lists and reservations.
func TestAddOfAny(t *testing.T) {
	d := dice(2)
	told := map[api.Errno]int{}
	for range 50000 {
		c := d.config()
		l := d.resvs(c, maxResvs)
		if d.below(8) == 0 {
			l = d.wild(c)
		}
		r := d.resv(c)
		if d.below(4) == 0 {
			d.bend(c, &r)
		}
		if len(l) > 0 && d.below(5) == 0 {
			r.Name = one(&d, l).Name
		}
		now := one(&d, of(-1, 0, int64(d.below(60)), r.To-1, r.To))
		want, err := addOf(c, l, r, now)
		if with, e := resv.Add(c, l, r, now); e != err || !same(with, want) {
			t.Fatalf("Add(%v, %v, %v, %d) = %v, %d, not %v, %d", c, l, r, now, with, e, want, err)
		}
		told[err]++
	}
	for err, least := range map[api.Errno]int{api.OK: 5000, api.ErrConfig: 1000, api.ErrArg: 5000, api.ErrTwice: 1500, api.ErrFull: 200, api.ErrClash: 5000} {
		if told[err] < least {
			t.Errorf("the test is wrong: %d is told %d times", err, told[err])
		}
	}
}
