package job_test

import (
	"math"
	"testing"

	"muster/api"
	"muster/job"
)

// endOf is End in plain words.
func endOf(j api.Job) int64 {
	switch j.State {
	case 2:
		return j.Start + j.Spec.Limit
	case 3, 4, 5, 6, 7, 8:
		return j.End
	}
	return 0
}

// findOf is Find in plain words: from behind, so that the first one is what is left.
func findOf(l []api.Job, id int) (int, bool) {
	place, found := 0, false
	for i := len(l) - 1; i >= 0; i-- {
		if l[i].Id == id {
			place, found = i, true
		}
	}
	return place, found
}

// P18.4: End of each kind of job.
func TestEnd(t *testing.T) {
	for name, want := range map[string]int64{"pending": 0, "running": 17, "completed": 9, "failed": 9, "timeout": 9, "cancelled with nodes": 9, "cancelled without nodes": 9, "node fail": 9, "never": 9} {
		for range 2 {
			if end := job.End(kindOf(name).job()); end != want {
				t.Errorf("%s: %d, not %d", name, end, want)
			}
		}
	}
	running := kindOf("running")
	long, late := running.at(0, 0, 0), running.at(maxTime, maxTime, 0)
	long.Spec.Limit, late.Spec.Limit = maxLimit, maxLimit
	if job.End(long) != maxLimit || job.End(late) != maxTime+maxLimit {
		t.Errorf("%d, %d", job.End(long), job.End(late))
	}
	if end := job.End(kindOf("never").at(5, 0, maxTime)); end != maxTime {
		t.Errorf("never, at MaxTime: %d", end)
	}
}

// P18.4: End asks of its job the state alone, and then just what that has, right or not.
func TestEndOfWhatIsNotRight(t *testing.T) {
	times := []int64{math.MinInt64 / 2, -1, 0, 1, 20, maxTime, maxTime + 1, math.MaxInt64 / 2}
	for s := range 256 {
		for _, start := range times {
			for _, end := range times {
				for _, limit := range times {
					j := api.Job{State: api.JobState(s), Start: start, End: end, Spec: api.Spec{Limit: limit}}
					if got := job.End(j); got != endOf(j) {
						t.Fatalf("End(%v) = %d, not %d", j, got, endOf(j))
					}
				}
			}
		}
	}
}

// P18.4: End of any jobs.
func TestEndOfAny(t *testing.T) {
	d := dice(6)
	for range 50000 {
		j := d.job(one(&d, kinds()))
		if end := job.End(j); end != endOf(j) {
			t.Fatalf("End(%v) = %d, not %d", j, end, endOf(j))
		}
		d.bend(&j)
		if end := job.End(j); end != endOf(j) {
			t.Fatalf("bent: End(%v) = %d, not %d", j, end, endOf(j))
		}
	}
}

// ids are jobs of these ids, of which nothing else is right.
func ids(l ...int) []api.Job {
	jobs := []api.Job{}
	for _, id := range l {
		jobs = append(jobs, api.Job{Id: id, Of: -id})
	}
	return jobs
}

// P18.4: Find with each edge that the document names.
func TestFind(t *testing.T) {
	right := []api.Job{kindOf("pending").job(), kindOf("running").job(), kindOf("never").job()}
	right[1].Id, right[2].Id = 8, 9
	for name, x := range map[string]struct {
		l     []api.Job
		id    int
		place int
		found bool
	}{
		"no list":                      {nil, 1, 0, false},
		"no list, 0":                   {nil, 0, 0, false},
		"no jobs":                      {ids(), 1, 0, false},
		"one":                          {ids(4), 4, 0, true},
		"one, another":                 {ids(4), 5, 0, false},
		"the first":                    {ids(4, 5, 6), 4, 0, true},
		"the one between":              {ids(4, 5, 6), 5, 1, true},
		"the last":                     {ids(4, 5, 6), 6, 2, true},
		"below all":                    {ids(4, 5, 6), 3, 0, false},
		"above all":                    {ids(4, 5, 6), 7, 0, false},
		"between two":                  {ids(4, 6), 5, 0, false},
		"twice":                        {ids(4, 5, 6, 5), 5, 1, true},
		"twice, at both ends":          {ids(4, 5, 6, 4), 4, 0, true},
		"twice, side by side":          {ids(4, 5, 5), 5, 1, true},
		"thrice":                       {ids(9, 5, 5, 5), 5, 1, true},
		"they do not rise":             {ids(6, 5, 4), 4, 2, true},
		"they do not rise, first":      {ids(6, 5, 4), 6, 0, true},
		"0":                            {ids(4, 0), 0, 1, true},
		"0 is not there":               {ids(4, 5), 0, 0, false},
		"-1":                           {ids(4, -1), -1, 1, true},
		"-1 is not there":              {ids(4, 5), -1, 0, false},
		"MaxId":                        {ids(1, maxId), maxId, 1, true},
		"the least number":             {ids(4, math.MinInt), math.MinInt, 1, true},
		"the greatest number":          {ids(4, math.MaxInt), math.MaxInt, 1, true},
		"2^32 more":                    {ids(4, 5), 1<<32 + 5, 0, false},
		"an Of is not asked":           {ids(-5, 5), 5, 1, true},
		"right ones, the running one":  {right, 8, 1, true},
		"right ones, the one that was": {right, 9, 2, true},
		"right ones, an Of":            {right, 5, 0, false},
		"right ones, an Index":         {right, 3, 0, false},
	} {
		for range 2 {
			if place, found := job.Find(x.l, x.id); place != x.place || found != x.found {
				t.Errorf("%s: %d, %v, not %d, %v", name, place, found, x.place, x.found)
			}
		}
	}
	long := make([]api.Job, 1<<18)
	long[1<<18-1].Id = 5
	if place, found := job.Find(long, 5); place != 1<<18-1 || !found {
		t.Errorf("the last of many: %d, %v", place, found)
	}
	if place, found := job.Find(long, 6); place != 0 || found {
		t.Errorf("none of many: %d, %v", place, found)
	}
}

// P18.4: Find of any ids in any jobs.
func TestFindOfAny(t *testing.T) {
	d := dice(7)
	first, behind, none := 0, 0, 0
	for range 50000 {
		var l []api.Job
		for range d.below(12) {
			j := d.job(one(&d, kinds()))
			j.Id = d.below(10) - 1
			l = append(l, j)
		}
		id := d.below(12) - 2
		wantPlace, want := findOf(l, id)
		if place, found := job.Find(l, id); place != wantPlace || found != want {
			t.Fatalf("Find(%v, %d) = %d, %v, not %d, %v", l, id, place, found, wantPlace, want)
		}
		switch {
		case !want:
			none++
		case wantPlace == 0:
			first++
		default:
			behind++
		}
	}
	if first < 2000 || behind < 5000 || none < 5000 {
		t.Errorf("the test is wrong: %d are the first, %d stand behind, %d are not there", first, behind, none)
	}
}
