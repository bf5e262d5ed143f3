package array_test

import (
	"slices"
	"strings"
	"testing"

	"muster/api"
	"muster/array"
	"muster/job"
)

// there asks whether Parse of what Print tells is the list.
func there(t *testing.T, l []int) string {
	t.Helper()
	text, e := array.Print(l)
	if e != api.OK {
		t.Fatalf("Print(%v): %d", l, e)
	}
	back, e := array.Parse(text)
	if e != api.OK || !slices.Equal(back, l) {
		t.Fatalf("Print(%v) = %q, and Parse of that %v, %d", l, text, back, e)
	}
	return text
}

// P19.4: there and back, for all lists out of twelve indexes, for long ones, and for any.
func TestThereAndBack(t *testing.T) {
	for _, from := range of(0, 5, 94, 9988) {
		for bits := 1; bits < 1<<12; bits++ {
			var l []int
			for i := range 12 {
				if bits>>i&1 == 1 {
					l = append(l, from+i)
				}
			}
			there(t, l)
		}
	}
	for _, l := range printed() {
		there(t, l)
	}
	d := dice(4)
	longest := 0
	for range 50000 {
		longest = max(longest, len(there(t, d.list())))
	}
	// Squares stand in no run, so that each has a piece of its own.
	var squares []int
	for i := range maxArray {
		squares = append(squares, 1000+i*i)
	}
	if text := there(t, squares); len(text) != 5*maxArray-1 || strings.ContainsAny(text, "-:") || longest > len(text) {
		t.Errorf("%q has %d bytes, and the longest %d", text, len(text), longest)
	}
}

// P19.4: what Parse tells is an index list, and what is told of it says the same, also where the text was another one.
func TestBackAndThere(t *testing.T) {
	d := dice(5)
	right, other := 0, 0
	for range 100000 {
		text := d.text()
		l, e := array.Parse(text)
		if e != api.OK {
			continue
		}
		if !isListOf(l) {
			t.Fatalf("Parse(%q) = %v", text, l)
		}
		right++
		if there(t, l) != text {
			other++
		}
	}
	if right < 20000 || other < 5000 {
		t.Errorf("the test is wrong: %d texts are right, of %d the list has another one", right, other)
	}
}

// P19.4: the jobs of an array have ids that follow one another, and no two the same Index; each is right and pending.
func TestJobsOfAnArray(t *testing.T) {
	d := dice(6)
	for range 20000 {
		l, s, now := d.list(), d.spec(), one(&d, of(0, 5, int64(d.next()), maxTime))
		id := 1 + d.below(maxId-maxArray)
		jobs, e := array.Expand(id, l, s, now)
		if e != api.OK || len(jobs) != len(l) {
			t.Fatalf("Expand(%d, %v, %v, %d) = %v, %d", id, l, s, now, jobs, e)
		}
		indexes := map[int]bool{}
		for k, j := range jobs {
			if j.Id != id+k || j.Of != jobs[0].Id || indexes[j.Index] || !job.Right(j) || j.State != api.Pending || j.Submit != now {
				t.Fatalf("Expand(%d, %v, %v, %d): %v in place %d", id, l, s, now, j, k)
			}
			indexes[j.Index] = true
			if place, found := job.Find(jobs, id+k); place != k || !found {
				t.Fatalf("%d is found in place %d, %v", id+k, place, found)
			}
		}
	}
}

// P19.1 to P19.4: from a text to its jobs, each of which has the index that the text says.
func TestFromTextToJobs(t *testing.T) {
	for text, want := range rightTexts() {
		l, e := array.Parse(text)
		if e != api.OK {
			t.Fatalf("Parse(%q): %d", text, e)
		}
		jobs, e := array.Expand(3, l, spec(), 8)
		if e != api.OK || len(jobs) != len(want) {
			t.Fatalf("%q: %v, %d", text, jobs, e)
		}
		for k, j := range jobs {
			if j.Id != 3+k || j.Of != 3 || j.Index != want[k] {
				t.Errorf("%q: job %d is %v", text, k, j)
			}
		}
	}
}
