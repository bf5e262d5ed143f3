package array_test

import (
	"math"
	"strconv"
	"testing"

	"muster/api"
	"muster/array"
	"muster/job"
)

// expandOf is Expand in plain words.
func expandOf(id int, l []int, s api.Spec, now int64) ([]api.Job, api.Errno) {
	asked := s.Nodes >= 1 && s.Nodes <= 32 && s.Cores >= 1 && s.Cores <= 64 && s.Limit >= 1 && s.Limit <= maxLimit
	if id < 1 || len(l) > 0 && !isListOf(l) || !asked || now < 0 || now > maxTime {
		return nil, api.ErrArg
	}
	if len(l) == 0 {
		if id > maxId {
			return nil, api.ErrOver
		}
		return []api.Job{{Id: id, Spec: s, State: 1, Submit: now}}, api.OK
	}
	if last := uint64(id) + uint64(len(l)) - 1; last > maxId {
		return nil, api.ErrOver
	}
	var jobs []api.Job
	for k, index := range l {
		jobs = append(jobs, api.Job{Id: id + k, Of: id, Index: index, Spec: s, State: 1, Submit: now})
	}
	return jobs, api.OK
}

// P19.3: of no indexes one job, which is alone; of others one each, in their order.
func TestExpand(t *testing.T) {
	for _, l := range of(nil, of[int](), make([]int, 0, 9)) {
		checkExpand(t, "no indexes", 7, l, spec(), 5, api.OK)
	}
	for _, l := range of(of(0), of(4), of(9999), of(0, 1), of(1, 3), of(0, 9999), of(2, 4, 6), of(9997, 9998, 9999), span(0, 30, 1), span(0, 31, 1), span(0, 9982, 322), span(9968, 9999, 1)) {
		for _, now := range of(0, 1, 5, maxTime-1, maxTime) {
			checkExpand(t, "indexes", 7, l, spec(), now, api.OK)
		}
	}
	one, e := array.Expand(7, of(0), spec(), 5)
	if e != api.OK || len(one) != 1 || one[0].Of != 7 || one[0].Index != 0 {
		t.Errorf("an array of index 0 alone: %v, %d", one, e)
	}
}

// P19.3: ids of 0, 1 and MaxId, and last ids at MaxId and one above, for each count of indexes.
func TestExpandById(t *testing.T) {
	for count := range maxArray + 1 {
		l := span(0, count-1, 1)
		most := maxId - max(1, count) + 1 // with which the last id is MaxId
		for id, err := range map[int]api.Errno{
			math.MinInt: api.ErrArg, -maxId: api.ErrArg, -1: api.ErrArg, 0: api.ErrArg,
			1: api.OK, 2: api.OK, 7: api.OK, most - 1: api.OK, most: api.OK,
			most + 1: api.ErrOver, maxId + 1: api.ErrOver, maxId + 2: api.ErrOver, 1 << 31: api.ErrOver, 1<<32 + 7: api.ErrOver, math.MaxInt - 40: api.ErrOver, math.MaxInt - 31: api.ErrOver, math.MaxInt - 1: api.ErrOver, math.MaxInt: api.ErrOver,
		} {
			checkExpand(t, strconv.Itoa(count)+" from "+strconv.Itoa(id), id, l, spec(), 5, err)
		}
	}
	checkExpand(t, "MaxId, no indexes", maxId, nil, spec(), 5, api.OK)
	checkExpand(t, "MaxId, one", maxId, of(3), spec(), 5, api.OK)
	checkExpand(t, "MaxId, two", maxId, of(3, 4), spec(), 5, api.ErrOver)
	checkExpand(t, "one below MaxId, two", maxId-1, of(3, 4), spec(), 5, api.OK)
	checkExpand(t, "one above MaxId, no indexes", maxId+1, nil, spec(), 5, api.ErrOver)
}

// wrongLists are no index lists, though they are not empty.
func wrongLists() map[string][]int {
	return map[string][]int{
		"they fall":      {3, 1},
		"one twice":      {1, 1},
		"twice at last":  {0, 1, 2, 2},
		"-1":             {-1},
		"-1 and more":    {-1, 0, 1},
		"10000":          {10000},
		"9999 and 10000": {9999, 10000},
		"33":             span(0, 32, 1),
		"many noughts":   make([]int, 33),
		"very many":      span(0, 1<<16, 1),
		"the least":      {math.MinInt},
		"the greatest":   {math.MaxInt},
	}
}

// specEdges are changes to a spec, and whether a job may ask for what is there then.
func specEdges() map[string]struct {
	change func(s *api.Spec)
	right  bool
} {
	type edge = struct {
		change func(s *api.Spec)
		right  bool
	}
	edges := map[string]edge{
		"nothing":            {func(s *api.Spec) { *s = api.Spec{} }, false},
		"the least":          {func(s *api.Spec) { *s = api.Spec{Nodes: 1, Cores: 1, Limit: 1} }, true},
		"the greatest":       {func(s *api.Spec) { s.Nodes, s.Cores, s.Limit = 32, 64, maxLimit }, true},
		"no names":           {func(s *api.Spec) { s.User, s.Account, s.Qos, s.Part = "", "", "", "" }, true},
		"no dependencies":    {func(s *api.Spec) { s.Deps = nil }, true},
		"dependencies of 0":  {func(s *api.Spec) { s.Deps = make([]api.Dep, 9) }, true},
		"one of itself, too": {func(s *api.Spec) { s.Deps = []api.Dep{{Kind: 99, Id: -1}, {Kind: 1, Id: 7}} }, true},
	}
	for n, right := range map[int]bool{math.MinInt: false, -1: false, 0: false, 1: true, 2: true, 32: true, 33: false, 1 << 32: false, 1<<32 + 1: false, math.MaxInt: false} {
		edges["nodes "+strconv.Itoa(n)] = edge{func(s *api.Spec) { s.Nodes = n }, right}
	}
	for n, right := range map[int]bool{math.MinInt: false, -1: false, 0: false, 1: true, 2: true, 64: true, 65: false, 1 << 32: false, 1<<32 + 1: false, math.MaxInt: false} {
		edges["cores "+strconv.Itoa(n)] = edge{func(s *api.Spec) { s.Cores = n }, right}
	}
	for n, right := range map[int64]bool{math.MinInt64: false, -1: false, 0: false, 1: true, 2: true, maxLimit: true, maxLimit + 1: false, 1 << 32: false, 1<<32 + 1: false, math.MaxInt64: false} {
		edges["limit "+strconv.FormatInt(n, 10)] = edge{func(s *api.Spec) { s.Limit = n }, right}
	}
	return edges
}

// P19.3: lists that are none, specs that make no right job, and now at -1, 0, MaxTime and one more.
func TestExpandOfWhatMayNotBe(t *testing.T) {
	for name, l := range wrongLists() {
		checkExpand(t, name, 7, l, spec(), 5, api.ErrArg)
		checkExpand(t, name, 1, l, spec(), 0, api.ErrArg)
	}
	for _, l := range of(nil, of(0), of(1, 3), span(0, 31, 1)) {
		for name, edge := range specEdges() {
			s := spec()
			edge.change(&s)
			err := api.OK
			if !edge.right {
				err = api.ErrArg
			}
			checkExpand(t, name, 7, l, s, 5, err)
		}
		for now, err := range map[int64]api.Errno{math.MinInt64: api.ErrArg, -1: api.ErrArg, 0: api.OK, 1: api.OK, maxTime: api.OK, maxTime + 1: api.ErrArg, math.MaxInt64: api.ErrArg} {
			checkExpand(t, "now "+strconv.FormatInt(now, 10), 7, l, spec(), now, err)
		}
	}
}

// P19.3: ErrArg comes first where ErrOver holds, too.
func TestExpandTellsTheFirst(t *testing.T) {
	for _, id := range of(maxId, maxId+1, math.MaxInt) {
		two := of(1, 3)
		checkExpand(t, "over alone", id, two, spec(), 5, api.ErrOver)
		for name, l := range wrongLists() {
			checkExpand(t, "over, and "+name, id, l, spec(), 5, api.ErrArg)
		}
		for name, edge := range specEdges() {
			s, err := spec(), api.ErrOver
			edge.change(&s)
			if !edge.right {
				err = api.ErrArg
			}
			checkExpand(t, "over, and "+name, id, two, s, 5, err)
		}
		for _, now := range of(-1, maxTime+1) {
			checkExpand(t, "over, and now", id, two, spec(), now, api.ErrArg)
		}
		checkExpand(t, "over, and all else", id, of(3, 1), api.Spec{}, -1, api.ErrArg)
	}
	checkExpand(t, "id 0, and all else", 0, of(3, 1), api.Spec{}, -1, api.ErrArg)
}

// P19.3: any ids, lists, specs and times.
func TestExpandAny(t *testing.T) {
	d := dice(3)
	told := map[api.Errno]int{}
	for range 100000 {
		l := d.list()
		if d.below(6) == 0 {
			l = d.bent(l)
		}
		if d.below(6) == 0 {
			l = nil
		}
		s := d.spec()
		switch d.below(20) {
		case 0:
			s.Nodes = int(d.number())
		case 1:
			s.Cores = int(d.number())
		case 2:
			s.Limit = d.number()
		}
		id := one(&d, of(1, 1+d.below(maxId), maxId-len(l), maxId-len(l)+1, maxId-len(l)+2, maxId-d.below(40), int(d.number())))
		now := one(&d, of(0, 5, int64(d.next()), maxTime, maxTime, d.number()))
		want, err := expandOf(id, l, s, now)
		jobs, e := array.Expand(id, l, s, now)
		if e != err || !same(jobs, want) {
			t.Fatalf("Expand(%d, %v, %v, %d) = %v, %d, not %v, %d", id, l, s, now, jobs, e, want, err)
		}
		for k, j := range jobs {
			made := job.Make(id+k, s, now)
			if len(l) > 0 {
				made.Of, made.Index = id, l[k]
			}
			if !same(of(j), of(made)) {
				t.Fatalf("Expand(%d, %v, %v, %d): %v is not %v", id, l, s, now, j, made)
			}
		}
		told[err]++
	}
	for _, err := range of(api.OK, api.ErrArg, api.ErrOver) {
		if told[err] < 5000 {
			t.Errorf("the test is wrong: %v", told)
		}
	}
}
