package nodeset_test

import (
	"slices"
	"testing"

	"muster/api"
	"muster/nodeset"
)

// P10.4: Of of what List tells, and Parse of what Print tells, is the set.
func TestThereAndBack(t *testing.T) {
	check := func(s api.Set) {
		if back, e := nodeset.Of(nodeset.List(s)); back != s || e != api.OK {
			t.Fatalf("Of(List(%#x)) = %#x, %d", s, back, e)
		}
		text := nodeset.Print(s)
		if back, e := nodeset.Parse(text); back != s || e != api.OK {
			t.Fatalf("Parse(%q) = %#x, %d, and it is Print(%#x)", text, back, e, s)
		}
	}
	for _, s := range manySets() {
		check(s)
	}
	for s := range api.Set(1 << 13) {
		check(s)
		check(s << 19)
		check(s*0x00080001 ^ s<<7)
	}
	d := dice(4)
	for range 100000 {
		check(d.set())
	}
}

// P10.4: unlike sets have unlike texts.
func TestUnlikeTexts(t *testing.T) {
	seen := map[string]api.Set{}
	check := func(s api.Set) {
		text := nodeset.Print(s)
		if before, is := seen[text]; is && before != s {
			t.Fatalf("%q is the text of %#x and of %#x", text, before, s)
		}
		seen[text] = s
	}
	for _, s := range manySets() {
		check(s)
	}
	for s := range api.Set(1 << 14) {
		check(s)
		check(s << 18)
		check(s<<18 | s)
	}
}

// P10.4: a text that is read is the one that is told of what was read, so that a set has just one.
func TestBackAndThere(t *testing.T) {
	for text := range rightTexts() {
		s, _ := nodeset.Parse(text)
		if again := nodeset.Print(s); again != text {
			t.Errorf("%q is told as %q", text, again)
		}
	}
	for what, texts := range wrongTexts() {
		for _, text := range texts {
			if s, e := nodeset.Parse(text); e == api.OK && nodeset.Print(s) != text {
				t.Errorf("%s: %.40q is told as %q", what, text, nodeset.Print(s))
			}
		}
	}
}

// P10.1, P10.2, P10.4: the calls agree with one another: what First tells is within the set, has as many nodes, is the beginning of its list, and what is left lies above it.
func TestCallsAgree(t *testing.T) {
	d := dice(5)
	for range 20000 {
		s := d.set()
		l := nodeset.List(s)
		if nodeset.Count(s) != len(l) || !slices.IsSorted(l) {
			t.Fatalf("%#x: %d of %v", s, nodeset.Count(s), l)
		}
		n := d.below(nodes + 2)
		first, ok := nodeset.First(s, n)
		if ok != (n <= len(l)) {
			t.Fatalf("First(%#x, %d): %v", s, n, ok)
		}
		if !ok {
			continue
		}
		if !nodeset.Within(first, s) || nodeset.Count(first) != n || !slices.Equal(nodeset.List(first), l[:n]) {
			t.Fatalf("First(%#x, %d) = %#x", s, n, first)
		}
		if back, e := nodeset.Of(l[n:]); back != s&^first || e != api.OK {
			t.Fatalf("%#x without its first %d is %#x, %d", s, n, back, e)
		}
	}
}

// The chapter's examples, word by word.
func TestExamples(t *testing.T) {
	s, e := nodeset.Of([]int{0, 1, 2, 5})
	if s != 0x27 || e != api.OK || nodeset.Print(s) != "0-2,5" {
		t.Errorf("1: %#x, %d, %q", s, e, nodeset.Print(s))
	}
	two, ok := nodeset.First(s, 2)
	if !ok || nodeset.Print(two) != "0-1" {
		t.Errorf("1: %#x, %v", two, ok)
	}
	five, ok := nodeset.First(s, 5)
	if ok || five != 0 {
		t.Errorf("1: %#x, %v", five, ok)
	}
	for _, n := range []int{32, -1} {
		if s, e := nodeset.Of([]int{n}); s != 0 || e != api.ErrArg {
			t.Errorf("1: Of(%d) = %#x, %d", n, s, e)
		}
	}
	none, e := nodeset.Parse("none")
	every, f := nodeset.Parse("0-31")
	if none != 0 || e != api.OK || every != all || f != api.OK {
		t.Errorf("2: %#x, %d, %#x, %d", none, e, every, f)
	}
	for _, text := range []string{"", "2-2", "1,0", "0,1", "00", "32", "0-"} {
		if s, e := nodeset.Parse(text); s != 0 || e != api.ErrSyntax {
			t.Errorf("2: Parse(%q) = %#x, %d", text, s, e)
		}
	}
}
