package array_test

import (
	"reflect"
	"slices"
	"strings"
	"testing"

	"muster/api"
	"muster/array"
)

// The tests' own numbers, so that they don't lean on what they test.
const (
	maxBytes = 400
	maxArray = 32
	maxIndex = 9999
	maxId    = 1073741824           // 2^30
	maxTime  = int64(1099511627776) // 2^40
	maxLimit = int64(1048576)       // 2^20
)

// of is the list of these.
func of[T any](l ...T) []T { return l }

// span is all numbers from one on, up to another one at most, by steps.
func span(from, to, step int) []int {
	var l []int
	for i := from; i <= to; i += step {
		l = append(l, i)
	}
	return l
}

// join is one list of all of them.
func join(l ...[]int) []int { return slices.Concat(l...) }

// isListOf tells in plain words whether l is an index list.
func isListOf(l []int) bool {
	if len(l) == 0 || len(l) > maxArray {
		return false
	}
	rising := slices.Compact(slices.Sorted(slices.Values(l)))
	return slices.Equal(rising, l) && slices.Min(l) >= 0 && slices.Max(l) <= maxIndex
}

// same tells whether two lists of jobs have the same values; no dependencies and an empty list of them are the same.
func same(a, b []api.Job) bool {
	return slices.EqualFunc(a, b, func(x, y api.Job) bool {
		if len(x.Spec.Deps) == 0 && len(y.Spec.Deps) == 0 {
			x.Spec.Deps, y.Spec.Deps = nil, nil
		}
		return reflect.DeepEqual(x, y)
	})
}

// spec asks for 2 nodes, 3 cores of each, for 10 ticks.
func spec() api.Spec {
	return api.Spec{User: "ann", Account: "phys", Qos: "normal", Part: "main", Nodes: 2, Cores: 3, Limit: 10, Deps: []api.Dep{{Kind: api.DepOk, Id: 1}, {Kind: api.DepAny, Id: 2}}}
}

// checkParse asks Parse, of which it is told what it answers.
func checkParse(t *testing.T, what, text string, want []int, err api.Errno) {
	t.Helper()
	if l, e := readAs(text); e != err || !slices.Equal(l, want) {
		t.Errorf("%s: the test is wrong: %.60q says %v, %d", what, text, l, e)
	}
	for range 2 {
		l, e := array.Parse(text)
		if e != err || !slices.Equal(l, want) {
			t.Errorf("%s: Parse(%.60q) = %v, %d, not %v, %d", what, text, l, e, want, err)
		}
	}
}

// checkPrint asks Print, of which it is told what it answers; of lists that are none the text is to be empty.
func checkPrint(t *testing.T, what string, l []int, want string) {
	t.Helper()
	err := api.OK
	if want == "" {
		err = api.ErrArg
	}
	if isListOf(l) != (err == api.OK) || err == api.OK && textOf(l) != want {
		t.Errorf("%s: the test is wrong: %v", what, l)
	}
	for range 2 {
		if text, e := array.Print(l); e != err || text != want {
			t.Errorf("%s: Print(%v) = %q, %d, not %q, %d", what, l, text, e, want, err)
		}
	}
}

// checkExpand asks Expand, of which it is told which error it answers.
func checkExpand(t *testing.T, what string, id int, l []int, s api.Spec, now int64, err api.Errno) {
	t.Helper()
	want, e := expandOf(id, l, s, now)
	if e != err {
		t.Errorf("%s: the test is wrong: %d", what, e)
	}
	for range 2 {
		if jobs, e := array.Expand(id, l, s, now); e != err || !same(jobs, want) {
			t.Errorf("%s: Expand(%d, %v, %v, %d) = %v, %d, not %v, %d", what, id, l, s, now, jobs, e, want, err)
		}
	}
}

// P19.1 to P19.3: the chapter's examples.
func TestChapters(t *testing.T) {
	for text, want := range map[string][]int{"0-6:2,9": {0, 2, 4, 6, 9}, "3": {3}, "5-5": {5}, "0-5:9": {0}, "2,1": {1, 2}} {
		checkParse(t, "example 1", text, want, api.OK)
	}
	checkParse(t, "example 1", "1,1", nil, api.ErrTwice)
	checkParse(t, "example 1", "0-32", nil, api.ErrLong)
	for _, text := range of("", "a", "1-", "2-1", "0-4:0", "01", "10000", "1, 2") {
		checkParse(t, "example 1", text, nil, api.ErrSyntax)
	}
	checkParse(t, "example 1", strings.Repeat("1", maxBytes+1), nil, api.ErrLong)
	checkPrint(t, "example 2", of(0, 2, 4, 6, 9), "0-6:2,9")
	checkPrint(t, "example 2", of(1, 2, 3), "1-3")
	checkPrint(t, "example 2", of(1, 2), "1,2")
	checkPrint(t, "example 2", of(0, 5, 6, 7), "0,5-7")
	checkPrint(t, "example 2", of(2, 1), "")
	s := spec()
	jobs, e := array.Expand(7, of(1, 3), s, 5)
	if e != api.OK || !same(jobs, of(api.Job{Id: 7, Of: 7, Index: 1, Spec: s, State: 1, Submit: 5}, api.Job{Id: 8, Of: 7, Index: 3, Spec: s, State: 1, Submit: 5})) {
		t.Errorf("example 3: %v, %d", jobs, e)
	}
}
