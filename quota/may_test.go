package quota_test

import (
	"testing"

	"muster/api"
	"muster/quota"
)

// mayOf is May in plain words.
func mayOf(c api.Config, jobs []api.Job, s api.Spec) api.Errno {
	switch {
	case !isRight(c):
		return api.ErrArg
	case !hasAccount(c.Accounts, s.Account) || !hasQuality(c.Qos, s.Qos):
		return api.ErrName
	}
	cores := s.Nodes * s.Cores
	for _, a := range c.Accounts {
		if used, _ := coresOf(c, jobs, a.Name); isUpon(c.Accounts, s.Account, a.Name) && a.Limit >= 0 && used+cores > a.Limit {
			return api.ErrLimit
		}
	}
	for _, q := range c.Qos {
		used, n, _ := qosOf(c, jobs, q.Name)
		if q.Name == s.Qos && (q.Limit >= 0 && used+cores > q.Limit || q.Jobs >= 0 && n >= q.Jobs) {
			return api.ErrLimit
		}
	}
	return api.OK
}

// P15.2: the chapter's examples.
func TestChaptersMay(t *testing.T) {
	jobs := of(running("phys", "normal", 2, 3))
	for cores := 1; cores <= mostAsked; cores++ {
		phys, all := api.OK, api.OK
		if cores > 2 {
			phys = api.ErrLimit
		}
		if cores > 4 {
			all = api.ErrLimit
		}
		e, f := quota.May(chapters(), jobs, spec("phys", "normal", 1, cores)), quota.May(chapters(), jobs, spec("all", "normal", 1, cores))
		if e != phys || f != all {
			t.Errorf("%d cores: %d, %d, not %d, %d", cores, e, f, phys, all)
		}
	}
	for _, second := range of(running("all", "normal", 1, 1), running("phys", "normal", 1, 1)) {
		for _, account := range of("all", "phys") {
			if e := quota.May(chapters(), append(jobs, second), spec(account, "normal", 1, 1)); e != api.ErrLimit {
				t.Errorf("with two jobs running: %s: %d", account, e)
			}
		}
	}
}

// mayCase is limits, jobs, a spec, and what is told.
type mayCase struct {
	limits map[string]int // of accounts of forest; all others have none
	qos    []api.Qos
	jobs   []api.Job
	s      api.Spec
	err    api.Errno
}

func (m mayCase) config() api.Config {
	c := config(forest(), m.qos)
	for i, a := range c.Accounts {
		if n, has := m.limits[a.Name]; has {
			c.Accounts[i].Limit = n
		}
	}
	return c
}

func (m mayCase) check(t *testing.T, name string) {
	t.Helper()
	for range 2 {
		if e := quota.May(m.config(), m.jobs, m.s); e != m.err {
			t.Errorf("%s: %d, not %d", name, e, m.err)
		}
	}
	if e := mayOf(m.config(), m.jobs, m.s); e != m.err {
		t.Errorf("%s: the test is wrong: %d, not %d", name, e, m.err)
	}
}

// P15.2: limits of accounts: of its own, further up on its path, and not on its path.
func TestMayOfAccounts(t *testing.T) {
	free := of(quality("q", -1, -1))
	six := of(running("e", "q", 2, 3))
	spread := of(running("g", "q", 1, 1), running("e", "q", 2, 1), running("a", "q", 1, 4), running("c", "q", 1, 8), running("r", "q", 1, 16), running("s", "q", 1, 32))
	for name, m := range map[string]mayCase{
		"its own, just met":              {map[string]int{"e": 8}, free, six, spec("e", "q", 1, 2), api.OK},
		"its own, passed by one":         {map[string]int{"e": 8}, free, six, spec("e", "q", 1, 3), api.ErrLimit},
		"its own, met by nodes":          {map[string]int{"e": 12}, free, six, spec("e", "q", 3, 2), api.OK},
		"its own, passed by nodes":       {map[string]int{"e": 11}, free, six, spec("e", "q", 3, 2), api.ErrLimit},
		"its own, far below":             {map[string]int{"e": 100}, free, six, spec("e", "q", 1, 1), api.OK},
		"its own, far above":             {map[string]int{"e": 8}, free, six, spec("e", "q", 64, 64), api.ErrLimit},
		"its own, met already":           {map[string]int{"e": 6}, free, six, spec("e", "q", 1, 1), api.ErrLimit},
		"its own, above it already":      {map[string]int{"e": 5}, free, six, spec("e", "q", 1, 1), api.ErrLimit},
		"its own, no jobs, just met":     {map[string]int{"e": 6}, free, nil, spec("e", "q", 2, 3), api.OK},
		"its own, no jobs, passed":       {map[string]int{"e": 5}, free, nil, spec("e", "q", 2, 3), api.ErrLimit},
		"its own, 0":                     {map[string]int{"e": 0}, free, nil, spec("e", "q", 1, 1), api.ErrLimit},
		"its own, 1":                     {map[string]int{"e": 1}, free, nil, spec("e", "q", 1, 1), api.OK},
		"its own, -1":                    {map[string]int{"e": -1}, free, six, spec("e", "q", 64, 64), api.OK},
		"its own, 2^30":                  {map[string]int{"e": mostLimit}, free, six, spec("e", "q", 64, 64), api.OK},
		"the most, just met":             {map[string]int{"e": 4096}, free, nil, spec("e", "q", 64, 64), api.OK},
		"the most, passed by one":        {map[string]int{"e": 4095}, free, nil, spec("e", "q", 64, 64), api.ErrLimit},
		"its parent's, just met":         {map[string]int{"a": 8}, free, six, spec("e", "q", 1, 2), api.OK},
		"its parent's, passed by one":    {map[string]int{"a": 8}, free, six, spec("e", "q", 1, 3), api.ErrLimit},
		"its parent's, by another below": {map[string]int{"a": 8}, free, six, spec("g", "q", 1, 3), api.ErrLimit},
		"the same, just met":             {map[string]int{"a": 8}, free, six, spec("g", "q", 1, 2), api.OK},
		"its parent's, 0":                {map[string]int{"a": 0}, free, nil, spec("e", "q", 1, 1), api.ErrLimit},
		"its root's, just met":           {map[string]int{"r": 8}, free, six, spec("e", "q", 1, 2), api.OK},
		"its root's, passed by one":      {map[string]int{"r": 8}, free, six, spec("e", "q", 1, 3), api.ErrLimit},
		"its root's, from beside":        {map[string]int{"r": 8}, free, six, spec("c", "q", 1, 3), api.ErrLimit},
		"its root's, all counted, met":   {map[string]int{"r": 33}, free, spread, spec("e", "q", 1, 2), api.OK},
		"its root's, all counted":        {map[string]int{"r": 33}, free, spread, spec("e", "q", 1, 3), api.ErrLimit},
		"its root's, 0":                  {map[string]int{"r": 0}, free, nil, spec("e", "q", 1, 1), api.ErrLimit},
		"its parent's counts no others":  {map[string]int{"a": 9}, free, spread, spec("e", "q", 1, 2), api.OK},
		"its own counts itself alone":    {map[string]int{"e": 4}, free, spread, spec("e", "q", 1, 2), api.OK},
		"a lower one below is not asked": {map[string]int{"e": 0}, free, six, spec("a", "q", 64, 64), api.OK},
		"nor from the root":              {map[string]int{"e": 0, "a": 0}, free, six, spec("r", "q", 64, 64), api.OK},
		"nor one beside it":              {map[string]int{"c": 0, "g": 0}, free, six, spec("e", "q", 64, 64), api.OK},
		"nor another root":               {map[string]int{"s": 0, "b": 0}, free, six, spec("e", "q", 64, 64), api.OK},
		"none above it, 0 of its own":    {map[string]int{"r": -1, "a": -1, "e": 0}, free, nil, spec("e", "q", 1, 1), api.ErrLimit},
		"more of its own than above":     {map[string]int{"r": 8, "e": 100}, free, six, spec("e", "q", 1, 3), api.ErrLimit},
		"all three just met":             {map[string]int{"r": 8, "a": 8, "e": 8}, free, six, spec("e", "q", 1, 2), api.OK},
		"all but the root's":             {map[string]int{"r": 7, "a": 8, "e": 8}, free, six, spec("e", "q", 1, 2), api.ErrLimit},
		"all but the parent's":           {map[string]int{"r": 8, "a": 7, "e": 8}, free, six, spec("e", "q", 1, 2), api.ErrLimit},
		"all but its own":                {map[string]int{"r": 8, "a": 8, "e": 7}, free, six, spec("e", "q", 1, 2), api.ErrLimit},
		"jobs of accounts not there":     {map[string]int{"r": 8}, free, of(running("x", "q", 9, 9), running("", "q", 9, 9)), spec("e", "q", 1, 8), api.OK},
	} {
		m.check(t, name)
	}
}

// P15.2: limits of qualities: of their cores, and of their jobs.
func TestMayOfQualities(t *testing.T) {
	with := func(limit, jobs int) []api.Qos { return of(quality("p", 0, 0), quality("q", limit, jobs)) }
	six := of(running("e", "q", 2, 3))
	two := of(running("e", "q", 2, 3), running("b", "q", 1, 4), running("e", "p", 9, 9), inState(api.Pending, spec("e", "q", 9, 9)))
	for name, m := range map[string]mayCase{
		"cores just met":                  {nil, with(8, -1), six, spec("e", "q", 1, 2), api.OK},
		"cores passed by one":             {nil, with(8, -1), six, spec("e", "q", 1, 3), api.ErrLimit},
		"cores of jobs of any account":    {nil, with(12, -1), two, spec("c", "q", 1, 2), api.OK},
		"the same, passed by one":         {nil, with(12, -1), two, spec("c", "q", 1, 3), api.ErrLimit},
		"cores met by nodes":              {nil, with(16, -1), two, spec("c", "q", 3, 2), api.OK},
		"cores passed by nodes":           {nil, with(15, -1), two, spec("c", "q", 3, 2), api.ErrLimit},
		"cores met already":               {nil, with(6, -1), six, spec("e", "q", 1, 1), api.ErrLimit},
		"cores above it already":          {nil, with(5, -1), six, spec("e", "q", 1, 1), api.ErrLimit},
		"cores, no jobs, just met":        {nil, with(6, -1), nil, spec("e", "q", 2, 3), api.OK},
		"cores, no jobs, passed":          {nil, with(5, -1), nil, spec("e", "q", 2, 3), api.ErrLimit},
		"cores, 0":                        {nil, with(0, -1), nil, spec("e", "q", 1, 1), api.ErrLimit},
		"cores, 1":                        {nil, with(1, -1), nil, spec("e", "q", 1, 1), api.OK},
		"cores, 2^30":                     {nil, with(mostLimit, -1), two, spec("e", "q", 64, 64), api.OK},
		"the most, just met":              {nil, with(4096, -1), nil, spec("e", "q", 64, 64), api.OK},
		"the most, passed by one":         {nil, with(4095, -1), nil, spec("e", "q", 64, 64), api.ErrLimit},
		"neither is limited":              {nil, with(-1, -1), two, spec("e", "q", 64, 64), api.OK},
		"jobs, one less":                  {nil, with(-1, 3), two, spec("e", "q", 64, 64), api.OK},
		"jobs, as many":                   {nil, with(-1, 2), two, spec("e", "q", 1, 1), api.ErrLimit},
		"jobs, more already":              {nil, with(-1, 1), two, spec("e", "q", 1, 1), api.ErrLimit},
		"jobs, none, 1":                   {nil, with(-1, 1), nil, spec("e", "q", 64, 64), api.OK},
		"jobs, none, 0":                   {nil, with(-1, 0), nil, spec("e", "q", 1, 1), api.ErrLimit},
		"jobs, 2^30":                      {nil, with(-1, mostLimit), two, spec("e", "q", 1, 1), api.OK},
		"jobs of another one alone":       {nil, with(-1, 1), of(running("e", "p", 1, 1)), spec("e", "q", 1, 1), api.OK},
		"jobs that don't run alone":       {nil, with(-1, 1), of(inState(api.Pending, spec("e", "q", 1, 1)), inState(api.Completed, spec("e", "q", 1, 1))), spec("e", "q", 1, 1), api.OK},
		"jobs of accounts not there":      {nil, with(-1, 1), of(running("x", "q", 1, 1)), spec("e", "q", 1, 1), api.ErrLimit},
		"cores and jobs just met":         {nil, with(12, 3), two, spec("e", "q", 1, 2), api.OK},
		"jobs passed, cores not":          {nil, with(12, 2), two, spec("e", "q", 1, 2), api.ErrLimit},
		"cores passed, jobs not":          {nil, with(11, 3), two, spec("e", "q", 1, 2), api.ErrLimit},
		"another quality is full":         {nil, with(-1, -1), of(running("e", "p", 1, 1)), spec("e", "q", 1, 1), api.OK},
		"and for that one":                {nil, with(-1, -1), nil, spec("e", "p", 1, 1), api.ErrLimit},
		"the account's passed, not these": {map[string]int{"r": 7}, with(8, 2), six, spec("e", "q", 1, 2), api.ErrLimit},
		"these passed, not the account's": {map[string]int{"r": 8}, with(7, 2), six, spec("e", "q", 1, 2), api.ErrLimit},
		"jobs passed, not the account's":  {map[string]int{"r": 8}, with(8, 1), six, spec("e", "q", 1, 2), api.ErrLimit},
		"all just met":                    {map[string]int{"r": 8, "a": 8, "e": 8}, with(8, 2), six, spec("e", "q", 1, 2), api.OK},
	} {
		m.check(t, name)
	}
}

// P15.2: accounts and qualities that are not there, configs that are not right, and which error comes first.
func TestMayRefuses(t *testing.T) {
	full := of(quality("q", 0, 0))
	wrong := of(quality("q", 0, 0), quality("q", 0, 0))
	free := of(quality("q", -1, -1))
	shut := map[string]int{"r": 0, "s": 0}
	jobs := of(running("x", "x", 1, 1), running("", "", 1, 1), running("e", "q", 1, 1))
	for name, m := range map[string]mayCase{
		"no such account":                  {nil, free, jobs, spec("x", "q", 1, 1), api.ErrName},
		"the empty account":                {nil, free, jobs, spec("", "q", 1, 1), api.ErrName},
		"an account in capitals":           {nil, free, jobs, spec("E", "q", 1, 1), api.ErrName},
		"a quality as the account":         {nil, free, jobs, spec("q", "q", 1, 1), api.ErrName},
		"no such quality":                  {nil, free, jobs, spec("e", "x", 1, 1), api.ErrName},
		"the empty quality":                {nil, free, jobs, spec("e", "", 1, 1), api.ErrName},
		"a quality in capitals":            {nil, free, jobs, spec("e", "Q", 1, 1), api.ErrName},
		"an account as the quality":        {nil, free, jobs, spec("e", "e", 1, 1), api.ErrName},
		"neither":                          {nil, free, jobs, spec("x", "x", 1, 1), api.ErrName},
		"a zero spec":                      {nil, free, jobs, api.Spec{}, api.ErrName},
		"no such account, no jobs":         {nil, free, nil, spec("x", "q", 1, 1), api.ErrName},
		"no such account, a full quality":  {nil, full, jobs, spec("x", "q", 1, 1), api.ErrName},
		"no such quality, a full account":  {shut, free, jobs, spec("e", "x", 1, 1), api.ErrName},
		"all are full, no such account":    {shut, full, jobs, spec("x", "q", 1, 1), api.ErrName},
		"all are full, no such quality":    {shut, full, jobs, spec("e", "x", 1, 1), api.ErrName},
		"all are full, both are there":     {shut, full, jobs, spec("e", "q", 1, 1), api.ErrLimit},
		"wrong qualities":                  {nil, wrong, nil, spec("e", "q", 1, 1), api.ErrArg},
		"wrong qualities, no such account": {nil, wrong, jobs, spec("x", "q", 1, 1), api.ErrArg},
		"wrong qualities, no such quality": {nil, wrong, jobs, spec("e", "x", 1, 1), api.ErrArg},
		"wrong qualities, full accounts":   {shut, wrong, jobs, spec("e", "q", 1, 1), api.ErrArg},
		"wrong accounts":                   {map[string]int{"b": -2}, free, jobs, spec("e", "q", 1, 1), api.ErrArg},
		"wrong accounts, no such account":  {map[string]int{"b": -2}, free, jobs, spec("x", "q", 1, 1), api.ErrArg},
		"wrong accounts, no such quality":  {map[string]int{"b": -2}, free, jobs, spec("e", "x", 1, 1), api.ErrArg},
		"wrong accounts, a full quality":   {map[string]int{"b": -2}, full, jobs, spec("e", "q", 1, 1), api.ErrArg},
		"no qualities, a zero spec":        {nil, nil, nil, api.Spec{}, api.ErrArg},
	} {
		m.check(t, name)
	}
	for name, c := range wrongConfigs() {
		for _, s := range of(spec("all", "normal", 1, 1), spec("a", "a", 64, 64), spec("x", "x", 1, 1), api.Spec{}) {
			if e := quota.May(c, of(running("all", "normal", 9, 9)), s); e != api.ErrArg {
				t.Errorf("%s: %d", name, e)
			}
		}
	}
}

// P15.2: of all states, a job counts in Running alone.
func TestMayBesideEachState(t *testing.T) {
	s := spec("e", "q", 1, 1)
	for state := range 256 {
		jobs := of(inState(api.JobState(state), spec("e", "q", 1, 1)))
		want := api.OK
		if state == 2 {
			want = api.ErrLimit
		}
		for name, m := range map[string]mayCase{
			"its own":  {map[string]int{"e": 1}, of(quality("q", -1, -1)), jobs, s, want},
			"its root": {map[string]int{"r": 1}, of(quality("q", -1, -1)), jobs, s, want},
			"cores":    {nil, of(quality("q", 1, -1)), jobs, s, want},
			"jobs":     {nil, of(quality("q", -1, 1)), jobs, s, want},
		} {
			m.check(t, name)
		}
	}
}

// P15.2: with MaxAccounts in one path, each of them is asked.
func TestMayAsksTheWholePath(t *testing.T) {
	last := numbered(maxAccounts - 1)
	jobs := of(running(last, "q", 2, 3))
	for i := range maxAccounts {
		for limit, want := range map[int]api.Errno{7: api.ErrLimit, 8: api.OK} {
			c := config(line(maxAccounts), of(quality("q", -1, -1)))
			c.Accounts[i].Limit = limit
			if e := quota.May(c, jobs, spec(last, "q", 1, 2)); e != want {
				t.Errorf("%d of account %d: %d, not %d", limit, i, e, want)
			}
		}
	}
}

// P15.2: with MaxQos qualities, just the one that is named is asked.
func TestMayAsksOneQuality(t *testing.T) {
	for i := range maxQos {
		c := config(of(root("r", -1)), qualities(maxQos))
		c.Qos[i].Limit = 0
		x := config(of(root("r", -1)), qualities(maxQos))
		x.Qos[i].Jobs = 0
		for k := range maxQos {
			want := api.OK
			if k == i {
				want = api.ErrLimit
			}
			s := spec("r", numbered(k), 1, 1)
			if e, f := quota.May(c, nil, s), quota.May(x, nil, s); e != want || f != want {
				t.Errorf("quality %d, %d is full: %d, %d, not %d", k, i, e, f, want)
			}
		}
	}
}

// P15.2: of a Spec nothing is asked but its Account, Qos, Nodes and Cores; of a quality not its Prio.
func TestOthersOfSpecAreNotAsked(t *testing.T) {
	jobs := of(running("phys", "normal", 2, 3))
	for cores, want := range map[int]api.Errno{2: api.OK, 3: api.ErrLimit} {
		s := spec("phys", "normal", 1, cores)
		s.User, s.Part, s.Limit, s.Deps = "Nobody", "x", -1, of(api.Dep{Kind: 9, Id: -1})
		c := chapters()
		c.Qos[0].Prio = mostPrio
		if e, f := quota.May(chapters(), jobs, s), quota.May(c, jobs, s); e != want || f != want {
			t.Errorf("%d cores: %d, %d, not %d", cores, e, f, want)
		}
	}
}

// P15.2: any configs, jobs and specs.
func TestMayOfAny(t *testing.T) {
	d := dice(3)
	told := map[api.Errno]int{}
	for range 30000 {
		c := d.config()
		if d.below(4) == 0 {
			c = d.wild()
		}
		jobs, s := d.jobs(c), d.spec(c)
		want := mayOf(c, jobs, s)
		if e := quota.May(c, jobs, s); e != want {
			t.Fatalf("May(%v, %v, %v) = %d, not %d", c, jobs, s, e, want)
		}
		told[want]++
	}
	for _, e := range of(api.OK, api.ErrArg, api.ErrName, api.ErrLimit) {
		if told[e] < 3000 {
			t.Errorf("the test is wrong: %d is told %d times", e, told[e])
		}
	}
}

// P15.2: for any job that may start, the limits are set to what is just met, and then, one by one, to one less.
func TestMayAtEachEdge(t *testing.T) {
	d := dice(4)
	edges := 0
	for range 2000 {
		c := d.config()
		jobs, s := d.jobs(c), spec(c.Accounts[d.below(len(c.Accounts))].Name, c.Qos[d.below(len(c.Qos))].Name, d.asked(), d.asked())
		var limits []*int
		for i, a := range c.Accounts {
			c.Accounts[i].Limit = 0
			if isUpon(c.Accounts, s.Account, a.Name) {
				used, _ := coresOf(c, jobs, a.Name)
				c.Accounts[i].Limit = used + s.Nodes*s.Cores
				limits = append(limits, &c.Accounts[i].Limit)
			}
		}
		for i, q := range c.Qos {
			c.Qos[i].Limit, c.Qos[i].Jobs = 0, 0
			if q.Name == s.Qos {
				used, n, _ := qosOf(c, jobs, q.Name)
				c.Qos[i].Limit, c.Qos[i].Jobs = used+s.Nodes*s.Cores, n+1
				limits = append(limits, &c.Qos[i].Limit, &c.Qos[i].Jobs)
			}
		}
		if e := quota.May(c, jobs, s); e != api.OK {
			t.Fatalf("%v, %v, %v: all is just met: %d", c, jobs, s, e)
		}
		for _, limit := range limits {
			edges++
			*limit--
			if e := quota.May(c, jobs, s); e != api.ErrLimit {
				t.Fatalf("%v, %v, %v: one is passed by one: %d", c, jobs, s, e)
			}
			*limit++
		}
	}
	if edges < 8000 {
		t.Errorf("the test is wrong: %d edges", edges)
	}
}
