package quota_test

import (
	"math"
	"slices"
	"testing"

	"muster/api"
	"muster/quota"
)

// hasAccount tells whether there is an account of that name.
func hasAccount(l []api.Account, name string) bool {
	return slices.ContainsFunc(l, func(a api.Account) bool { return a.Name == name })
}

// hasQuality tells whether there is a quality of that name.
func hasQuality(l []api.Qos, name string) bool {
	return slices.ContainsFunc(l, func(q api.Qos) bool { return q.Name == name })
}

// isUpon goes up from that account of a right tree, and tells whether it comes to the other one.
func isUpon(l []api.Account, account, other string) bool {
	for i := len(l) - 1; i >= 0; i-- {
		if l[i].Name == account && account == other {
			return true
		}
		if l[i].Name == account {
			account = l[i].Parent
		}
	}
	return false
}

// coresOf is Cores in plain words.
func coresOf(c api.Config, jobs []api.Job, account string) (int, api.Errno) {
	switch {
	case !isRight(c):
		return 0, api.ErrArg
	case !hasAccount(c.Accounts, account):
		return 0, api.ErrName
	}
	cores := 0
	for _, j := range jobs {
		if j.State == 2 && isUpon(c.Accounts, j.Spec.Account, account) {
			cores += j.Spec.Nodes * j.Spec.Cores
		}
	}
	return cores, api.OK
}

// qosOf is Qos in plain words.
func qosOf(c api.Config, jobs []api.Job, name string) (int, int, api.Errno) {
	switch {
	case !isRight(c):
		return 0, 0, api.ErrArg
	case !hasQuality(c.Qos, name):
		return 0, 0, api.ErrName
	}
	cores, n := 0, 0
	for _, j := range jobs {
		if j.State == 2 && j.Spec.Qos == name {
			cores += j.Spec.Nodes * j.Spec.Cores
			n++
		}
	}
	return cores, n, api.OK
}

// forest is two trees, their accounts among each other: r with a (below it e and g) and c, s with b.
func forest() []api.Account {
	return of(root("r", -1), root("s", -1), child("b", "s", -1), child("a", "r", -1), child("c", "r", -1), child("e", "a", -1), child("g", "a", -1))
}

// everywhere is a job of each account of forest, each with cores that no sum of others has.
func everywhere() []api.Job {
	return of(running("r", "q", 1, 1), running("s", "q", 1, 2), running("b", "p", 2, 2), running("a", "p", 2, 4), running("c", "q", 4, 4), running("e", "p", 1, 32), running("g", "q", 2, 32))
}

// woods is forest with three qualities.
func woods() api.Config {
	return config(forest(), of(quality("p", -1, -1), quality("q", -1, -1), quality("r", -1, -1)))
}

// P15.1: the chapter's example.
func TestChaptersCores(t *testing.T) {
	jobs := of(running("phys", "normal", 2, 3))
	for _, account := range of("all", "phys") {
		if n, e := quota.Cores(chapters(), jobs, account); n != 6 || e != api.OK {
			t.Errorf("%s: %d, %d", account, n, e)
		}
	}
}

// P15.1: Cores, with each edge that the document names.
func TestCores(t *testing.T) {
	long := config(line(maxAccounts), qualities(maxQos))
	first, last := numbered(0), numbered(maxAccounts-1)
	wrong := config(woods().Accounts, of(quality("p", -2, -1)))
	for name, c := range map[string]struct {
		c       api.Config
		jobs    []api.Job
		account string
		want    int
		err     api.Errno
	}{
		"a root, its own and all below":   {woods(), everywhere(), "r", 1 + 8 + 16 + 32 + 64, api.OK},
		"another root":                    {woods(), everywhere(), "s", 2 + 4, api.OK},
		"one between":                     {woods(), everywhere(), "a", 8 + 32 + 64, api.OK},
		"beside it":                       {woods(), everywhere(), "c", 16, api.OK},
		"below another root":              {woods(), everywhere(), "b", 4, api.OK},
		"none below it":                   {woods(), everywhere(), "e", 32, api.OK},
		"the last":                        {woods(), everywhere(), "g", 64, api.OK},
		"no jobs":                         {woods(), nil, "r", 0, api.OK},
		"the empty list of jobs":          {woods(), []api.Job{}, "r", 0, api.OK},
		"jobs above and beside alone":     {woods(), of(running("r", "q", 1, 1), running("a", "q", 1, 1), running("g", "q", 1, 1), running("s", "q", 1, 1)), "e", 0, api.OK},
		"jobs below alone":                {woods(), of(running("e", "q", 1, 3), running("g", "p", 1, 5)), "r", 8, api.OK},
		"1 node, 1 core":                  {woods(), of(running("e", "q", 1, 1)), "e", 1, api.OK},
		"1 node, 64 cores":                {woods(), of(running("e", "q", 1, 64)), "e", 64, api.OK},
		"64 nodes, 1 core":                {woods(), of(running("e", "q", 64, 1)), "e", 64, api.OK},
		"64 nodes, 64 cores":              {woods(), of(running("e", "q", 64, 64)), "e", 4096, api.OK},
		"the same job again":              {woods(), of(running("e", "q", 2, 3), running("e", "q", 2, 3)), "a", 12, api.OK},
		"accounts that are not there":     {woods(), of(running("x", "q", 1, 1), running("", "q", 1, 2), running("R", "q", 1, 4), running("rr", "q", 1, 8), running("r ", "q", 1, 16), running("\xff", "q", 1, 32)), "r", 0, api.OK},
		"the quality's name is the same":  {woods(), of(running("s", "r", 1, 1)), "r", 0, api.OK},
		"qualities that are not there":    {woods(), of(running("r", "x", 1, 1), running("a", "", 1, 2)), "r", 3, api.OK},
		"in one path, the root":           {long, of(running(last, "q", 1, 2), running(first, "q", 1, 1), running(numbered(7), "q", 1, 4)), first, 7, api.OK},
		"in one path, the last":           {long, of(running(last, "q", 1, 2), running(first, "q", 1, 1), running(numbered(7), "q", 1, 4)), last, 2, api.OK},
		"above its limit already":         {chapters(), of(running("phys", "normal", 64, 64), running("all", "normal", 1, 1)), "phys", 4096, api.OK},
		"names that begin alike":          {config(of(root("a", 0), root("aa", 0)), chapters().Qos), of(running("aa", "normal", 1, 1)), "a", 0, api.OK},
		"no such account":                 {woods(), everywhere(), "x", 0, api.ErrName},
		"the empty name":                  {woods(), everywhere(), "", 0, api.ErrName},
		"the empty name, with jobs of it": {woods(), of(running("", "q", 1, 1)), "", 0, api.ErrName},
		"a job has it, and no one else":   {woods(), of(running("x", "q", 1, 1)), "x", 0, api.ErrName},
		"capitals":                        {woods(), everywhere(), "R", 0, api.ErrName},
		"a quality's name":                {woods(), everywhere(), "q", 0, api.ErrName},
		"no such account, no jobs":        {woods(), nil, "x", 0, api.ErrName},
		"a wrong quality":                 {wrong, everywhere(), "r", 0, api.ErrArg},
		"ErrArg ahead of ErrName":         {wrong, everywhere(), "x", 0, api.ErrArg},
		"the same, no config":             {api.Config{}, nil, "", 0, api.ErrArg},
	} {
		for range 2 {
			if n, e := quota.Cores(c.c, c.jobs, c.account); n != c.want || e != c.err {
				t.Errorf("%s: %d, %d, not %d, %d", name, n, e, c.want, c.err)
			}
		}
	}
}

// P15.1: Qos, with each edge that the document names.
func TestQos(t *testing.T) {
	long := config(line(maxAccounts), qualities(maxQos))
	wrong := config(of(root("r", -2)), woods().Qos)
	for name, c := range map[string]struct {
		c     api.Config
		jobs  []api.Job
		name  string
		cores int
		n     int
		err   api.Errno
	}{
		"some jobs":                        {woods(), everywhere(), "p", 4 + 8 + 32, 3, api.OK},
		"all others":                       {woods(), everywhere(), "q", 1 + 2 + 16 + 64, 4, api.OK},
		"none":                             {woods(), everywhere(), "r", 0, 0, api.OK},
		"no jobs":                          {woods(), nil, "p", 0, 0, api.OK},
		"the empty list of jobs":           {woods(), []api.Job{}, "p", 0, 0, api.OK},
		"1 node, 1 core":                   {woods(), of(running("e", "q", 1, 1)), "q", 1, 1, api.OK},
		"1 node, 64 cores":                 {woods(), of(running("e", "q", 1, 64)), "q", 64, 1, api.OK},
		"64 nodes, 1 core":                 {woods(), of(running("e", "q", 64, 1)), "q", 64, 1, api.OK},
		"64 nodes, 64 cores":               {woods(), of(running("e", "q", 64, 64)), "q", 4096, 1, api.OK},
		"the same job again":               {woods(), of(running("e", "q", 2, 3), running("e", "q", 2, 3)), "q", 12, 2, api.OK},
		"accounts that are not there":      {woods(), of(running("x", "q", 1, 1), running("", "q", 1, 2)), "q", 3, 2, api.OK},
		"qualities that are not there":     {woods(), of(running("e", "x", 1, 1), running("e", "", 1, 2), running("e", "Q", 1, 4), running("e", "qq", 1, 8), running("e", "q ", 1, 16)), "q", 0, 0, api.OK},
		"the account's name is the same":   {woods(), of(running("r", "q", 1, 1)), "r", 0, 0, api.OK},
		"the last of MaxQos":               {long, of(running("a0", numbered(maxQos-1), 3, 5), running("a0", numbered(0), 1, 1)), numbered(maxQos - 1), 15, 1, api.OK},
		"above its limit already":          {chapters(), of(running("all", "normal", 1, 1), running("all", "normal", 1, 1), running("all", "normal", 1, 1)), "normal", 3, 3, api.OK},
		"no such quality":                  {woods(), everywhere(), "x", 0, 0, api.ErrName},
		"the empty name":                   {woods(), everywhere(), "", 0, 0, api.ErrName},
		"the empty name, with jobs of it":  {woods(), of(running("r", "", 1, 1)), "", 0, 0, api.ErrName},
		"a job has it, and no one else":    {woods(), of(running("r", "x", 1, 1)), "x", 0, 0, api.ErrName},
		"capitals":                         {woods(), everywhere(), "Q", 0, 0, api.ErrName},
		"an account's name":                {woods(), everywhere(), "s", 0, 0, api.ErrName},
		"no such quality, no jobs":         {woods(), nil, "x", 0, 0, api.ErrName},
		"wrong accounts":                   {wrong, everywhere(), "q", 0, 0, api.ErrArg},
		"ErrArg ahead of ErrName":          {wrong, everywhere(), "x", 0, 0, api.ErrArg},
		"the same, no config":              {api.Config{}, nil, "", 0, 0, api.ErrArg},
		"a name that stands twice":         {config(forest(), of(quality("q", -1, -1), quality("q", -1, -1))), everywhere(), "q", 0, 0, api.ErrArg},
		"the same, asked for another name": {config(forest(), of(quality("q", -1, -1), quality("q", -1, -1))), everywhere(), "p", 0, 0, api.ErrArg},
	} {
		for range 2 {
			if cores, n, e := quota.Qos(c.c, c.jobs, c.name); cores != c.cores || n != c.n || e != c.err {
				t.Errorf("%s: %d, %d, %d, not %d, %d, %d", name, cores, n, e, c.cores, c.n, c.err)
			}
		}
	}
}

// P15.1: of all states, a job counts in Running alone.
func TestRunningAloneCounts(t *testing.T) {
	for state := range 256 {
		jobs := of(running("e", "q", 1, 1), inState(api.JobState(state), spec("e", "q", 3, 5)), running("a", "p", 1, 2))
		cores, n := 3, 1
		if state == 2 {
			cores, n = 18, 2
		}
		all, e := quota.Cores(woods(), jobs, "r")
		used, count, f := quota.Qos(woods(), jobs, "q")
		if all != cores || e != api.OK || used != cores-2 || count != n || f != api.OK {
			t.Errorf("state %d: %d, %d; %d, %d, %d", state, all, e, used, count, f)
		}
	}
}

// P15.1: of a job nothing is asked but its State, and of its Spec the Account, Qos, Nodes and Cores.
func TestOthersOfJobsAreNotAsked(t *testing.T) {
	s := spec("e", "q", 3, 5)
	s.User, s.Part, s.Limit, s.Deps = "r", "q", -5, of(api.Dep{Kind: api.DepOk, Id: 1})
	j := api.Job{Id: -1, Of: 7, Index: 5, Spec: s, State: api.Running, Submit: 9, Start: 5, End: 3, On: 1, Exit: 4}
	for _, jobs := range [][]api.Job{{j}, {j, j}, {j, j, j}} {
		cores, e := quota.Cores(woods(), jobs, "r")
		used, n, f := quota.Qos(woods(), jobs, "q")
		if cores != 15*len(jobs) || used != cores || n != len(jobs) || e != api.OK || f != api.OK {
			t.Errorf("%d jobs: %d, %d; %d, %d, %d", len(jobs), cores, e, used, n, f)
		}
	}
}

// checkCounted asks Cores and Qos for that name, and tells both errors.
func checkCounted(t *testing.T, c api.Config, jobs []api.Job, name string) (api.Errno, api.Errno) {
	t.Helper()
	want, err := coresOf(c, jobs, name)
	if n, e := quota.Cores(c, jobs, name); n != want || e != err {
		t.Fatalf("Cores(%v, %v, %q) = %d, %d, not %d, %d", c, jobs, name, n, e, want, err)
	}
	cores, count, fault := qosOf(c, jobs, name)
	if m, n, e := quota.Qos(c, jobs, name); m != cores || n != count || e != fault {
		t.Fatalf("Qos(%v, %v, %q) = %d, %d, %d, not %d, %d, %d", c, jobs, name, m, n, e, cores, count, fault)
	}
	return err, fault
}

// P15.1: both, of each config that is right or not.
func TestCountedOfAllConfigs(t *testing.T) {
	jobs := of(running("all", "normal", 1, 1), running("phys", "a", 1, 2), running("a", "normal", 1, 4), running(numbered(3), numbered(3), 1, 8), inState(api.Pending, spec("all", "normal", 1, 16)))
	for _, c := range wrongConfigs() {
		for _, name := range of("all", "normal", "a", "x", "") {
			if e, f := checkCounted(t, c, jobs, name); e != api.ErrArg || f != api.ErrArg {
				t.Fatalf("%v: %d, %d", c, e, f)
			}
		}
	}
	for _, c := range rightConfigs() {
		for _, name := range of("all", "normal", "phys", "a", numbered(0), numbered(3), "x", "") {
			checkCounted(t, c, jobs, name)
		}
	}
}

// P15.1: both, of any configs and jobs.
func TestCountedOfAny(t *testing.T) {
	d := dice(2)
	ofCores, ofQos := map[api.Errno]int{}, map[api.Errno]int{}
	for range 10000 {
		c := d.config()
		if d.below(4) == 0 {
			c = d.wild()
		}
		jobs := d.jobs(c)
		for _, name := range of(d.account(c), d.quality(c), c.Accounts[0].Name, c.Qos[0].Name) {
			e, f := checkCounted(t, c, jobs, name)
			ofCores[e]++
			ofQos[f]++
		}
	}
	for _, e := range of(api.OK, api.ErrArg, api.ErrName) {
		if ofCores[e] < 2000 || ofQos[e] < 2000 {
			t.Errorf("the test is wrong: %d is told %d and %d times", e, ofCores[e], ofQos[e])
		}
	}
}

// P15.1: many jobs, in any order, are counted each.
func TestCountedOfManyJobs(t *testing.T) {
	var jobs []api.Job
	for i := range 70000 {
		jobs = append(jobs, running(of("r", "a", "e", "s")[i%4], of("p", "q")[i%2], mostAsked, mostAsked))
	}
	cores, e := quota.Cores(woods(), jobs, "r")
	used, n, f := quota.Qos(woods(), jobs, "p")
	if cores != 52500*4096 || e != api.OK || used != 35000*4096 || n != 35000 || f != api.OK {
		t.Errorf("%d, %d; %d, %d, %d", cores, e, used, n, f)
	}
	slices.Reverse(jobs)
	if m, e := quota.Cores(woods(), jobs, "r"); m != cores || e != api.OK {
		t.Errorf("the other way about: %d, %d", m, e)
	}
}

// R1: whatever Nodes and Cores are, each call ends, with the error that their names lead to.
func TestAnyNumbersEnd(t *testing.T) {
	numbers := of(math.MinInt, -1<<32, -65, -1, 0, 1, 64, 65, 1<<31, 1<<32, math.MaxInt)
	for _, nodes := range numbers {
		for _, cores := range numbers {
			s := spec("e", "q", nodes, cores)
			jobs := of(inState(api.Running, s), inState(api.Running, s))
			_, e := quota.Cores(woods(), jobs, "r")
			_, n, f := quota.Qos(woods(), jobs, "q")
			if e != api.OK || n != 2 || f != api.OK {
				t.Errorf("%d nodes of %d cores: %d, %d, %d", nodes, cores, e, n, f)
			}
			if e := quota.May(woods(), jobs, s); e != api.OK {
				t.Errorf("%d nodes of %d cores: no limit, and %d", nodes, cores, e)
			}
			quota.May(config(of(root("e", 5)), of(quality("q", 5, 5))), jobs, s)
		}
	}
}
