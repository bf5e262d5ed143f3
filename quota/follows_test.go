package quota_test

import (
	"testing"

	"muster/api"
	"muster/quota"
	"muster/tree"
)

// plain adds up from none what runs, by accounts and qualities, so that limits are held against sums that quota has not made.
type plain struct {
	accounts, cores, jobs map[string]int
}

func (p plain) add(c api.Config, s api.Spec, times int) {
	for name := s.Account; name != ""; {
		p.accounts[name] += times * s.Nodes * s.Cores
		for _, a := range c.Accounts {
			if a.Name == name {
				name = a.Parent
				break
			}
		}
	}
	p.cores[s.Qos] += times * s.Nodes * s.Cores
	p.jobs[s.Qos] += times
}

// check holds the sums against the limits, and against what quota tells.
func (p plain) check(t *testing.T, c api.Config, jobs []api.Job) {
	t.Helper()
	for _, a := range c.Accounts {
		n, e := quota.Cores(c, jobs, a.Name)
		if e != api.OK || n != p.accounts[a.Name] {
			t.Fatalf("%v, %v: %s: %d, %d, not %d", c, jobs, a.Name, n, e, p.accounts[a.Name])
		}
		if a.Limit >= 0 && n > a.Limit {
			t.Fatalf("%v, %v: %s: %d cores, above its limit", c, jobs, a.Name, n)
		}
	}
	for _, q := range c.Qos {
		cores, n, e := quota.Qos(c, jobs, q.Name)
		if e != api.OK || cores != p.cores[q.Name] || n != p.jobs[q.Name] {
			t.Fatalf("%v, %v: %s: %d, %d, %d, not %d, %d", c, jobs, q.Name, cores, n, e, p.cores[q.Name], p.jobs[q.Name])
		}
		if q.Limit >= 0 && cores > q.Limit || q.Jobs >= 0 && n > q.Jobs {
			t.Fatalf("%v, %v: %s: %d cores of %d jobs, above a limit", c, jobs, q.Name, cores, n)
		}
	}
}

// P15.3: jobs start one by one where May is OK, and end: no limit is ever passed.
func TestStartsKeepLimits(t *testing.T) {
	d := dice(5)
	started, refused := 0, 0
	for range 400 {
		c := d.config()
		var jobs []api.Job
		p := plain{map[string]int{}, map[string]int{}, map[string]int{}}
		p.check(t, c, jobs)
		for range 60 {
			if len(jobs) > 0 && d.below(6) == 0 {
				if j := &jobs[d.below(len(jobs))]; j.State == api.Running {
					j.State = api.JobState(3 + d.below(6))
					p.add(c, j.Spec, -1)
				}
			}
			s := spec(c.Accounts[d.below(len(c.Accounts))].Name, c.Qos[d.below(len(c.Qos))].Name, d.asked(), d.asked())
			state := api.Pending
			if e := quota.May(c, jobs, s); e == api.OK {
				started++
				state = api.Running
				p.add(c, s, 1)
			} else if e != api.ErrLimit {
				t.Fatalf("%v, %v: %d", c, s, e)
			} else {
				refused++
			}
			jobs = append(jobs, inState(state, s))
			p.check(t, c, jobs)
		}
	}
	if started < 5000 || refused < 5000 {
		t.Errorf("the test is wrong: %d start, %d are refused", started, refused)
	}
}

// P15.3: jobs of 1 core fill each limit to its brim, and not above it.
func TestStartsFillLimits(t *testing.T) {
	for name, c := range map[string]api.Config{
		"its own":       config(of(root("r", -1), child("e", "r", 5)), of(quality("q", -1, -1))),
		"further up":    config(of(root("r", 5), child("a", "r", 6), child("e", "a", -1)), of(quality("q", -1, -1))),
		"cores":         config(of(root("e", -1)), of(quality("q", 5, 6))),
		"jobs":          config(of(root("e", -1)), of(quality("q", -1, 5))),
		"all of them":   config(of(root("r", 5), child("e", "r", 5)), of(quality("q", 5, 5))),
		"jobs of cores": config(of(root("e", 6)), of(quality("q", 7, 5))),
	} {
		var jobs []api.Job
		for range 20 {
			if quota.May(c, jobs, spec("e", "q", 1, 1)) == api.OK {
				jobs = append(jobs, running("e", "q", 1, 1))
			}
		}
		if len(jobs) != 5 {
			t.Errorf("%s: %d start", name, len(jobs))
		}
	}
}

// P15.3: an account's cores are not below those of an account below it, whatever runs.
func TestCoresRise(t *testing.T) {
	d := dice(6)
	same, more := 0, 0
	for range 3000 {
		c := d.config()
		jobs := d.jobs(c)
		for _, a := range c.Accounts {
			n, e := quota.Cores(c, jobs, a.Name)
			below, f := tree.Below(c.Accounts, a.Name)
			if e != api.OK || f != api.OK {
				t.Fatalf("%v: %s: %d, %d", c, a.Name, e, f)
			}
			for _, name := range below {
				m, e := quota.Cores(c, jobs, name)
				switch {
				case e != api.OK || m > n:
					t.Fatalf("%v, %v: %s: %d; %s, below it: %d, %d", c, jobs, a.Name, n, name, m, e)
				case m == n:
					same++
				default:
					more++
				}
			}
		}
	}
	if same < 5000 || more < 5000 {
		t.Errorf("the test is wrong: %d, %d", same, more)
	}
}

// P15.2 and P15.3: with fewer nodes or cores, and beside fewer jobs, a job that may start may start, too.
func TestLessMayStart(t *testing.T) {
	d := dice(7)
	asked := 0
	for range 20000 {
		c := d.config()
		jobs, s := d.jobs(c), d.spec(c)
		if quota.May(c, jobs, s) != api.OK {
			continue
		}
		asked++
		less := s
		less.Nodes, less.Cores = 1+d.below(s.Nodes), 1+d.below(s.Cores)
		if e, f := quota.May(c, jobs, less), quota.May(c, jobs[:d.below(len(jobs)+1)], s); e != api.OK || f != api.OK {
			t.Fatalf("%v, %v, %v: %d, %d", c, jobs, s, e, f)
		}
	}
	if asked < 4000 {
		t.Errorf("the test is wrong: %d may start", asked)
	}
}
