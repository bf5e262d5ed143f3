package file_test

import (
	"bytes"
	"fmt"
	"math"
	"slices"
	"testing"

	"muster/api"
	"muster/file"
)

const most = 1048576

// step is one append or cut of the model.
type step struct {
	file int
	cut  bool
	text string
	n    int
}

// model is the chapter's disk told again in the plainest way: texts that are synced, and steps that are gone through anew at each look.
type model struct {
	durable   [3]string
	steps     []step
	gone      bool
	arm, fail int // operations still let through; -1: none is armed
	fault     api.Errno
}

func newModel() *model {
	return &model{arm: -1, fail: -1}
}

func play(files [3]string, steps []step) [3]string {
	for _, s := range steps {
		if s.cut {
			files[s.file] = files[s.file][:s.n]
		} else {
			files[s.file] += s.text
		}
	}
	return files
}

func (m *model) operation(do func()) api.Errno {
	if m.gone {
		return api.ErrDown
	}
	powerOff, faulty := m.arm == 0, m.fail == 0
	if m.arm >= 0 {
		m.arm--
	}
	if m.fail >= 0 {
		m.fail--
	}
	if powerOff {
		m.gone = true
		return api.ErrDown
	}
	if faulty {
		return m.fault
	}
	do()
	return api.OK
}

func (m *model) append(f int, text string) api.Errno {
	if f < 0 || f > 2 {
		return api.ErrArg
	}
	if len(play(m.durable, m.steps)[f])+len(text) > most {
		return api.ErrFull
	}
	return m.operation(func() { m.steps = append(m.steps, step{file: f, text: text}) })
}

func (m *model) cut(f, n int) api.Errno {
	if f < 0 || f > 2 || n < 0 || n > len(play(m.durable, m.steps)[f]) {
		return api.ErrArg
	}
	return m.operation(func() { m.steps = append(m.steps, step{file: f, cut: true, n: n}) })
}

func (m *model) sync() api.Errno {
	return m.operation(func() { m.durable, m.steps = play(m.durable, m.steps), nil })
}

func (m *model) armed(ops int) api.Errno {
	if ops < 0 {
		return api.ErrArg
	}
	m.arm = ops
	return api.OK
}

func (m *model) failing(ops int, e api.Errno) api.Errno {
	if ops < 0 || e != api.ErrIO && e != api.ErrFull {
		return api.ErrArg
	}
	m.fail, m.fault = ops, e
	return api.OK
}

func (m *model) crash(keep, torn int) api.Errno {
	if keep < 0 || torn < 0 {
		return api.ErrArg
	}
	var left []step
	for i, s := range m.steps {
		if i < keep {
			left = append(left, s)
		}
		if i == keep && !s.cut {
			s.text = s.text[:min(torn, len(s.text))]
			left = append(left, s)
		}
	}
	*m = model{durable: play(m.durable, left), arm: -1, fail: -1}
	return api.OK
}

func (m *model) copy() *model {
	c := *m
	c.steps = slices.Clone(m.steps)
	return &c
}

// alike holds all that can be looked at against the model.
func alike(t *testing.T, what string, d *file.Disk, m *model) {
	t.Helper()
	if n := d.Pending(); n != len(m.steps) {
		t.Fatalf("%s: Pending() = %d; want %d", what, n, len(m.steps))
	}
	now := play(m.durable, m.steps)
	for f := range 3 {
		b, e := d.Durable(f)
		if e != api.OK || string(b) != m.durable[f] {
			t.Fatalf("%s: Durable(%d) = %q, %d; want %q", what, f, b, e, m.durable[f])
		}
		b, e = d.Read(f)
		if m.gone && (e != api.ErrDown || len(b) != 0) {
			t.Fatalf("%s: Read(%d) without power = %q, %d", what, f, b, e)
		}
		if !m.gone && (e != api.OK || string(b) != now[f]) {
			t.Fatalf("%s: Read(%d) = %q, %d; want %q", what, f, b, e, now[f])
		}
	}
}

// is asks for an answer.
func is(t *testing.T, what string, got, want api.Errno) {
	t.Helper()
	if got != want {
		t.Fatalf("%s: %d; want %d", what, got, want)
	}
}

// holds asks for a file's bytes with all that is unsynced.
func holds(t *testing.T, d *file.Disk, f int, want string) {
	t.Helper()
	if b, e := d.Read(f); e != api.OK || string(b) != want {
		t.Fatalf("Read(%d) = %q, %d; want %q", f, b, e, want)
	}
}

// keeps asks for a file's bytes without what is unsynced.
func keeps(t *testing.T, d *file.Disk, f int, want string) {
	t.Helper()
	if b, e := d.Durable(f); e != api.OK || string(b) != want {
		t.Fatalf("Durable(%d) = %q, %d; want %q", f, b, e, want)
	}
}

// pending asks for how many are unsynced.
func pending(t *testing.T, d *file.Disk, want int) {
	t.Helper()
	if n := d.Pending(); n != want {
		t.Fatalf("Pending() = %d; want %d", n, want)
	}
}

// without is a disk whose power is gone, with text durable and more unsynced in file 0.
func without(t *testing.T, text, more string) *file.Disk {
	t.Helper()
	d := file.New()
	is(t, "Append", d.Append(0, []byte(text)), api.OK)
	is(t, "Sync", d.Sync(), api.OK)
	is(t, "Append", d.Append(0, []byte(more)), api.OK)
	is(t, "Arm", d.Arm(0), api.OK)
	is(t, "Sync", d.Sync(), api.ErrDown)
	return d
}

// P6.1, P6.2, P6.4, example 1.
func TestExampleFiles(t *testing.T) {
	d := file.New()
	is(t, "Append", d.Append(0, []byte("ab")), api.OK)
	holds(t, d, 0, "ab")
	keeps(t, d, 0, "")
	pending(t, d, 1)
	is(t, "Crash", d.Crash(0, 1), api.OK)
	holds(t, d, 0, "a")
	is(t, "Append", d.Append(0, []byte("bc")), api.OK)
	is(t, "Sync", d.Sync(), api.OK)
	is(t, "Cut", d.Cut(0, 1), api.OK)
	is(t, "Append", d.Append(1, []byte("x")), api.OK)
	c := d.Copy()
	is(t, "Crash", d.Crash(1, 9), api.OK)
	holds(t, d, 0, "a")
	holds(t, d, 1, "x")
	is(t, "Crash", c.Crash(0, 9), api.OK)
	holds(t, c, 0, "abc")
	holds(t, c, 1, "")
}

// P6.2, P6.3, example 2.
func TestExampleArmed(t *testing.T) {
	d := file.New()
	is(t, "Arm", d.Arm(1), api.OK)
	is(t, "Append", d.Append(0, []byte("q")), api.OK)
	is(t, "Sync", d.Sync(), api.ErrDown)
	if b, e := d.Read(0); e != api.ErrDown || len(b) != 0 {
		t.Errorf("Read = %q, %d", b, e)
	}
	is(t, "Crash", d.Crash(9, 0), api.OK)
	holds(t, d, 0, "q")
	is(t, "Fail", d.Fail(0, api.ErrIO), api.OK)
	is(t, "Sync", d.Sync(), api.ErrIO)
	is(t, "Sync", d.Sync(), api.OK)
	is(t, "Append", d.Append(3, []byte("q")), api.ErrArg)
	is(t, "Cut", d.Cut(1, 1), api.ErrArg)
	is(t, "Fail", d.Fail(0, api.ErrArg), api.ErrArg)
	is(t, "Crash", d.Crash(-1, 0), api.ErrArg)
}

// P6.1: a new disk has three files without bytes, nothing unsynced, its power, and nothing armed.
func TestNew(t *testing.T) {
	d := file.New()
	alike(t, "new", d, newModel())
	for i := range 100 {
		is(t, fmt.Sprint("Sync ", i), d.Sync(), api.OK)
	}
	is(t, "Append", file.New().Append(2, []byte("a")), api.OK)
	alike(t, "a new one beside others", file.New(), newModel())
}

// P6.1, P6.2: each of the three files goes its own way.
func TestEachFile(t *testing.T) {
	for f := range 3 {
		d, m := file.New(), newModel()
		do := func(what string, got, want api.Errno) {
			t.Helper()
			is(t, what, got, want)
			alike(t, fmt.Sprint("file ", f, " ", what), d, m)
		}
		for _, text := range []string{"first", "", "second"} {
			do("Append", d.Append(f, []byte(text)), m.append(f, text))
		}
		do("Cut", d.Cut(f, 6), m.cut(f, 6))
		do("Append", d.Append((f+1)%3, []byte("other")), m.append((f+1)%3, "other"))
		do("Append", d.Append(f, []byte("third")), m.append(f, "third"))
		do("Sync", d.Sync(), m.sync())
		holds(t, d, f, "firsts"+"third")
		do("Cut", d.Cut(f, 0), m.cut(f, 0))
		do("Append", d.Append(f, []byte{0, 0xff, 0}), m.append(f, "\x00\xff\x00"))
		keeps(t, d, f, "firsts"+"third")
		holds(t, d, f, "\x00\xff\x00")
		do("Sync", d.Sync(), m.sync())
		do("Sync", d.Sync(), m.sync())
		keeps(t, d, f, "\x00\xff\x00")
	}
}

// P6.1, P6.2, R2, R7: what is no file is refused, and nothing has changed.
func TestNoFile(t *testing.T) {
	for _, f := range []int{-1, 3, 4, math.MinInt, math.MaxInt} {
		d, m := file.New(), newModel()
		d.Append(0, []byte("ab"))
		m.append(0, "ab")
		is(t, "Append", d.Append(f, []byte("x")), api.ErrArg)
		is(t, "Append of none", d.Append(f, nil), api.ErrArg)
		is(t, "Cut", d.Cut(f, 0), api.ErrArg)
		if b, e := d.Read(f); e != api.ErrArg || len(b) != 0 {
			t.Errorf("Read(%d) = %q, %d", f, b, e)
		}
		if b, e := d.Durable(f); e != api.ErrArg || len(b) != 0 {
			t.Errorf("Durable(%d) = %q, %d", f, b, e)
		}
		alike(t, fmt.Sprint("behind file ", f), d, m)
	}
}

// P6.2: a file of just so many bytes as may be, by one append and by many, and one byte more.
func TestFull(t *testing.T) {
	for f := range 3 {
		d := file.New()
		is(t, "one more at once", d.Append(f, make([]byte, most+1)), api.ErrFull)
		pending(t, d, 0)
		is(t, "all at once", d.Append(f, make([]byte, most)), api.OK)
		is(t, "one more", d.Append(f, []byte("x")), api.ErrFull)
		is(t, "no more", d.Append(f, nil), api.OK)
		is(t, "the next file", d.Append((f+1)%3, []byte("x")), api.OK)
		pending(t, d, 3)
		if b, e := d.Read(f); e != api.OK || !bytes.Equal(b, make([]byte, most)) {
			t.Fatalf("%d bytes, %d", len(b), e)
		}
	}
}

// P6.2: what is counted is the file with all that is unsynced, its cuts too.
func TestFullWithUnsynced(t *testing.T) {
	d := file.New()
	is(t, "Append", d.Append(1, make([]byte, most-4)), api.OK)
	is(t, "Sync", d.Sync(), api.OK)
	is(t, "four", d.Append(1, []byte("abcd")), api.OK)
	is(t, "one more", d.Append(1, []byte("e")), api.ErrFull)
	is(t, "Cut", d.Cut(1, 10), api.OK)
	is(t, "too many", d.Append(1, make([]byte, most-9)), api.ErrFull)
	is(t, "just so many", d.Append(1, make([]byte, most-10)), api.OK)
	is(t, "one more", d.Append(1, []byte("e")), api.ErrFull)
	is(t, "Crash", d.Crash(0, 0), api.OK)
	is(t, "five", d.Append(1, []byte("abcde")), api.ErrFull)
	is(t, "four", d.Append(1, []byte("abcd")), api.OK)
}

// P6.2: cuts to -1, 0, all its bytes and one more, counted with all that is unsynced.
func TestCutEdges(t *testing.T) {
	begin := func() (*file.Disk, *model) {
		d, m := file.New(), newModel()
		d.Append(2, []byte("abc"))
		m.append(2, "abc")
		d.Sync()
		m.sync()
		d.Append(2, []byte("de"))
		m.append(2, "de")
		return d, m
	}
	for n := -2; n <= 7; n++ {
		d, m := begin()
		want := m.cut(2, n)
		if (want == api.OK) != (n >= 0 && n <= 5) {
			t.Fatal("the model is wrong at", n)
		}
		is(t, fmt.Sprint("Cut to ", n), d.Cut(2, n), want)
		alike(t, fmt.Sprint("behind a cut to ", n), d, m)
	}
	d, m := begin()
	for _, n := range []int{2, 3, 2, 1, 0, 1, 0} {
		is(t, fmt.Sprint("then to ", n), d.Cut(2, n), m.cut(2, n))
		alike(t, fmt.Sprint("then to ", n), d, m)
	}
	is(t, "of a file that is empty", d.Cut(0, 0), api.OK)
	is(t, "past its end", d.Cut(0, 1), api.ErrArg)
	is(t, "far past its end", d.Cut(0, math.MaxInt), api.ErrArg)
	is(t, "far below", d.Cut(0, math.MinInt), api.ErrArg)
}

// P6.2, P6.4: an append of no bytes is an unsynced one as others are.
func TestAppendNothing(t *testing.T) {
	d := file.New()
	is(t, "Append", d.Append(0, nil), api.OK)
	is(t, "Append", d.Append(0, []byte{}), api.OK)
	is(t, "Append", d.Append(0, []byte("a")), api.OK)
	pending(t, d, 3)
	c := d.Copy()
	d.Crash(2, 0)
	holds(t, d, 0, "")
	c.Crash(2, 1)
	holds(t, c, 0, "a")
	c.Append(0, nil)
	c.Append(0, []byte("b"))
	c.Crash(0, 9)
	holds(t, c, 0, "a")
	e := file.New()
	e.Arm(1)
	is(t, "it counts", e.Append(0, nil), api.OK)
	is(t, "it is stopped", e.Append(0, nil), api.ErrDown)
	pending(t, e, 1)
}

// P6.2, R2: each error counts ahead of the ones behind it, and nothing is done beside it.
func TestErrorsInOrder(t *testing.T) {
	big := make([]byte, most+1)
	begin := func() *file.Disk {
		d := file.New()
		is(t, "Append", d.Append(0, []byte("abc")), api.OK)
		return d
	}
	armed := begin()
	armed.Arm(0)
	failing := begin()
	failing.Fail(0, api.ErrIO)
	gone := begin()
	gone.Arm(0)
	gone.Sync()
	for name, d := range map[string]*file.Disk{"armed": armed, "failing": failing, "gone": gone} {
		is(t, name+": no file, too much", d.Append(3, big), api.ErrArg)
		is(t, name+": too much", d.Append(0, big), api.ErrFull)
		is(t, name+": one too much", d.Append(0, make([]byte, most-2)), api.ErrFull)
		is(t, name+": no file, cut", d.Cut(-1, 0), api.ErrArg)
		is(t, name+": cut past the end", d.Cut(0, 4), api.ErrArg)
		is(t, name+": cut below 0", d.Cut(0, -1), api.ErrArg)
		if b, e := d.Read(3); e != api.ErrArg || len(b) != 0 {
			t.Errorf("%s: Read(3) = %q, %d", name, b, e)
		}
		if b, e := d.Durable(-1); e != api.ErrArg || len(b) != 0 {
			t.Errorf("%s: Durable(-1) = %q, %d", name, b, e)
		}
		pending(t, d, 1)
	}
	is(t, "what is armed", armed.Append(0, make([]byte, most-3)), api.ErrDown)
	is(t, "what fails", failing.Append(0, make([]byte, most-3)), api.ErrIO)
	is(t, "without power", gone.Append(0, make([]byte, most-3)), api.ErrDown)
	is(t, "the power comes ahead of what fails", gone.Fail(0, api.ErrIO), api.OK)
	is(t, "Cut", gone.Cut(0, 3), api.ErrDown)
	is(t, "Sync", gone.Sync(), api.ErrDown)
}

// operations: each kind of an operation that would be done.
func operations() map[string]func(*file.Disk) api.Errno {
	return map[string]func(*file.Disk) api.Errno{
		"append": func(d *file.Disk) api.Errno { return d.Append(0, []byte("x")) },
		"cut":    func(d *file.Disk) api.Errno { return d.Cut(0, 0) },
		"sync":   func(d *file.Disk) api.Errno { return d.Sync() },
	}
}

// P6.3: Arm lets just so many operations through, of any kind; the power is gone at the next one, and stays so.
func TestArm(t *testing.T) {
	for name, do := range operations() {
		for ops := range 5 {
			d := file.New()
			d.Append(0, []byte("ab"))
			d.Sync()
			is(t, "Arm", d.Arm(ops), api.OK)
			for range ops {
				is(t, name+" let through", do(d), api.OK)
			}
			before, e := d.Read(0)
			is(t, "Read ahead of it", e, api.OK)
			unsynced := d.Pending()
			for range 3 {
				is(t, name+" without power", do(d), api.ErrDown)
				pending(t, d, unsynced)
			}
			_, e = d.Read(0)
			is(t, "Read behind it", e, api.ErrDown)
			is(t, "Crash", d.Crash(99, 0), api.OK)
			holds(t, d, 0, string(before))
			for range 5 {
				is(t, name+" behind the crash", do(d), api.OK)
			}
		}
	}
}

// P6.3: Fail stops one operation, of any kind, with the error it was given.
func TestFail(t *testing.T) {
	for name, do := range operations() {
		for _, fault := range []api.Errno{api.ErrIO, api.ErrFull} {
			for ops := range 5 {
				d := file.New()
				d.Append(0, []byte("ab"))
				is(t, "Fail", d.Fail(ops, fault), api.OK)
				for range ops {
					is(t, name+" let through", do(d), api.OK)
				}
				before, _ := d.Read(0)
				durable, _ := d.Durable(0)
				unsynced := d.Pending()
				is(t, name+" stopped", do(d), fault)
				holds(t, d, 0, string(before))
				keeps(t, d, 0, string(durable))
				pending(t, d, unsynced)
				for range 5 {
					is(t, name+" behind it", do(d), api.OK)
				}
			}
		}
	}
}

// P6.3, R2: what is below 0, or no error of a disk's, is refused, and what was armed stays.
func TestArmRefused(t *testing.T) {
	for _, ops := range []int{-1, -2, math.MinInt} {
		d := file.New()
		is(t, "Arm", d.Arm(1), api.OK)
		is(t, "Arm below 0", d.Arm(ops), api.ErrArg)
		is(t, "Fail below 0", d.Fail(ops, api.ErrIO), api.ErrArg)
		is(t, "let through", d.Sync(), api.OK)
		is(t, "stopped", d.Sync(), api.ErrDown)
	}
	for e := api.Errno(-3); e < 310; e++ {
		if e == api.ErrIO || e == api.ErrFull {
			continue
		}
		d := file.New()
		is(t, "Fail", d.Fail(1, api.ErrIO), api.OK)
		is(t, fmt.Sprint("Fail with ", int(e)), d.Fail(0, e), api.ErrArg)
		is(t, "below 0, too", d.Fail(-1, e), api.ErrArg)
		is(t, "let through", d.Sync(), api.OK)
		is(t, "stopped", d.Sync(), api.ErrIO)
	}
	for _, ops := range []int{math.MaxInt, math.MaxInt - 1, math.MaxInt32 + 1} {
		d := file.New()
		is(t, "Arm far off", d.Arm(ops), api.OK)
		is(t, "Fail far off", d.Fail(ops, api.ErrIO), api.OK)
		for range 20 {
			is(t, "let through", d.Sync(), api.OK)
		}
	}
}

// answers are what so many syncs answer.
func answers(d *file.Disk, n int) []api.Errno {
	var all []api.Errno
	for range n {
		all = append(all, d.Sync())
	}
	return all
}

// P6.3: a second Arm, a second Fail stands in the first one's place, be it nearer or farther.
func TestArmedInPlace(t *testing.T) {
	for first := range 4 {
		for second := range 4 {
			d := file.New()
			d.Arm(first)
			d.Arm(second)
			want := append(make([]api.Errno, second), api.ErrDown, api.ErrDown)
			if got := answers(d, second+2); !slices.Equal(got, want) {
				t.Errorf("Arm(%d), Arm(%d): %v", first, second, got)
			}
			d = file.New()
			d.Fail(first, api.ErrIO)
			d.Fail(second, api.ErrFull)
			want = append(make([]api.Errno, second), api.ErrFull, api.OK, api.OK, api.OK, api.OK)
			if got := answers(d, second+5); !slices.Equal(got, want) {
				t.Errorf("Fail(%d), Fail(%d): %v", first, second, got)
			}
		}
	}
	d := file.New()
	d.Arm(2)
	d.Fail(2, api.ErrIO)
	d.Sync()
	d.Arm(2)
	if got := answers(d, 3); !slices.Equal(got, []api.Errno{api.OK, api.ErrIO, api.ErrDown}) {
		t.Errorf("Arm anew leaves Fail as it is: %v", got)
	}
}

// P6.3: both together count the same operations, those that the other one stops too.
func TestArmAndFail(t *testing.T) {
	for arm := range 5 {
		for fail := range 5 {
			for _, fault := range []api.Errno{api.ErrIO, api.ErrFull} {
				want := make([]api.Errno, 8)
				want[fail] = fault
				for i := arm; i < len(want); i++ {
					want[i] = api.ErrDown
				}
				one, other := file.New(), file.New()
				one.Arm(arm)
				one.Fail(fail, fault)
				other.Fail(fail, fault)
				other.Arm(arm)
				if got := answers(one, 8); !slices.Equal(got, want) {
					t.Errorf("Arm(%d), Fail(%d): %v; want %v", arm, fail, got, want)
				}
				if got := answers(other, 8); !slices.Equal(got, want) {
					t.Errorf("Fail(%d), Arm(%d): %v; want %v", fail, arm, got, want)
				}
			}
		}
	}
}

// P6.3: what both stop is answered ErrDown, and both are spent: behind the crash nothing is armed.
func TestBothSpent(t *testing.T) {
	d := file.New()
	d.Append(0, []byte("ab"))
	d.Arm(0)
	d.Fail(0, api.ErrIO)
	is(t, "both", d.Append(0, []byte("c")), api.ErrDown)
	pending(t, d, 1)
	is(t, "Crash", d.Crash(9, 9), api.OK)
	holds(t, d, 0, "ab")
	if got := answers(d, 4); !slices.Equal(got, make([]api.Errno, 4)) {
		t.Error(got)
	}
}

// P6.3: calls that are refused are no operations, nor are looks; neither counts.
func TestRefusedCountNothing(t *testing.T) {
	for _, power := range []bool{true, false} {
		d := file.New()
		d.Append(0, []byte("ab"))
		stopped := api.ErrDown
		if power {
			d.Arm(1)
		} else {
			stopped = api.ErrIO
			d.Fail(1, api.ErrIO)
		}
		for range 3 {
			d.Append(-1, nil)
			d.Append(0, make([]byte, most-1))
			d.Cut(0, 3)
			d.Cut(3, 0)
			d.Read(0)
			d.Read(3)
			d.Durable(0)
			d.Pending()
			d.Arm(-1)
			d.Fail(-1, api.ErrIO)
			d.Crash(-1, 0)
			d.Crash(0, -1)
			d.Copy().Sync()
		}
		is(t, "let through", d.Cut(0, 1), api.OK)
		is(t, "stopped", d.Cut(0, 0), stopped)
	}
}

// P6.3: nothing is counted without power, and Arm and Fail do not bring it back.
func TestNothingWithoutPower(t *testing.T) {
	d := without(t, "ab", "c")
	is(t, "Arm", d.Arm(5), api.OK)
	is(t, "Fail", d.Fail(0, api.ErrIO), api.OK)
	for name, do := range operations() {
		is(t, name, do(d), api.ErrDown)
	}
	is(t, "Arm below 0", d.Arm(-1), api.ErrArg)
	is(t, "Fail with OK", d.Fail(0, api.OK), api.ErrArg)
	is(t, "Crash below 0", d.Crash(0, -1), api.ErrArg)
	_, e := d.Read(0)
	is(t, "Read", e, api.ErrDown)
	c := d.Copy()
	_, e = c.Read(0)
	is(t, "Read of a copy", e, api.ErrDown)
	is(t, "Crash", d.Crash(1, 0), api.OK)
	holds(t, d, 0, "abc")
	if got := answers(d, 8); !slices.Equal(got, make([]api.Errno, 8)) {
		t.Error(got)
	}
}

// P6.1: Durable and Pending answer without power; Read does not.
func TestLooksWithoutPower(t *testing.T) {
	d := without(t, "ab", "cde")
	keeps(t, d, 0, "ab")
	keeps(t, d, 1, "")
	pending(t, d, 1)
	for f := range 3 {
		if b, e := d.Read(f); e != api.ErrDown || len(b) != 0 {
			t.Errorf("Read(%d) = %q, %d", f, b, e)
		}
	}
	is(t, "a cut past the end, with what is unsynced", d.Cut(0, 6), api.ErrArg)
	is(t, "a cut to its end", d.Cut(0, 5), api.ErrDown)
	is(t, "Crash", d.Crash(0, 2), api.OK)
	holds(t, d, 0, "abcd")
}

// changes is a disk with seven unsynced ones in all files, behind a sync.
func changes() (*file.Disk, *model) {
	d, m := file.New(), newModel()
	add := func(f int, text string) {
		d.Append(f, []byte(text))
		m.append(f, text)
	}
	cut := func(f, n int) {
		d.Cut(f, n)
		m.cut(f, n)
	}
	add(0, "zero")
	add(1, "one")
	d.Sync()
	m.sync()
	add(0, "AB")
	add(2, "two")
	cut(0, 5)
	add(0, "CDE")
	cut(1, 0)
	add(1, "fgh")
	cut(0, 2)
	return d, m
}

// P6.4, P6.5: every count of kept ones, up to more than there are, with every torn length: within its bytes, at its end and behind it; a cut that is next is none.
func TestCrash(t *testing.T) {
	for keep := range 10 {
		for torn := range 6 {
			d, m := changes()
			is(t, "Crash", d.Crash(keep, torn), m.crash(keep, torn))
			alike(t, fmt.Sprintf("Crash(%d, %d)", keep, torn), d, m)
			pending(t, d, 0)
			for f := range 3 {
				keeps(t, d, f, play(m.durable, nil)[f])
			}
		}
	}
	d, m := changes()
	is(t, "Crash of all", d.Crash(math.MaxInt, math.MaxInt), m.crash(math.MaxInt, math.MaxInt))
	alike(t, "all", d, m)
	d, m = changes()
	is(t, "Crash torn far", d.Crash(3, math.MaxInt), m.crash(3, math.MaxInt))
	alike(t, "torn far", d, m)
}

// P6.4: told by hand, so that the model is not held against itself alone.
func TestCrashByHand(t *testing.T) {
	told := []struct {
		keep, torn       int
		zero, first, two string
	}{
		{0, 0, "zero", "one", ""},
		{0, 1, "zeroA", "one", ""},
		{0, 2, "zeroAB", "one", ""},
		{0, 3, "zeroAB", "one", ""},
		{1, 2, "zeroAB", "one", "tw"},
		{2, 9, "zeroAB", "one", "two"},
		{3, 0, "zeroA", "one", "two"},
		{3, 1, "zeroAC", "one", "two"},
		{4, 9, "zeroACDE", "one", "two"},
		{5, 0, "zeroACDE", "", "two"},
		{5, 1, "zeroACDE", "f", "two"},
		{6, 9, "zeroACDE", "fgh", "two"},
		{7, 0, "ze", "fgh", "two"},
		{8, 9, "ze", "fgh", "two"},
	}
	for _, c := range told {
		d, _ := changes()
		is(t, "Crash", d.Crash(c.keep, c.torn), api.OK)
		holds(t, d, 0, c.zero)
		holds(t, d, 1, c.first)
		holds(t, d, 2, c.two)
		keeps(t, d, 0, c.zero)
		keeps(t, d, 1, c.first)
		keeps(t, d, 2, c.two)
	}
}

// P6.4, R2: what is below 0 is refused: nothing is lost, and the power is not back.
func TestCrashRefused(t *testing.T) {
	for _, c := range [][2]int{{-1, 0}, {0, -1}, {-1, -1}, {math.MinInt, 5}, {5, math.MinInt}} {
		d, m := changes()
		is(t, "Crash", d.Crash(c[0], c[1]), api.ErrArg)
		alike(t, fmt.Sprint("refused ", c), d, m)
		d.Arm(1)
		d.Fail(0, api.ErrFull)
		is(t, "Crash", d.Crash(c[0], c[1]), api.ErrArg)
		if got := answers(d, 2); !slices.Equal(got, []api.Errno{api.ErrFull, api.ErrDown}) {
			t.Errorf("Crash(%d, %d) disarms: %v", c[0], c[1], got)
		}
		is(t, "Crash without power", d.Crash(c[0], c[1]), api.ErrArg)
		_, e := d.Read(0)
		is(t, "Read", e, api.ErrDown)
		pending(t, d, 7)
	}
}

// P6.4: behind a crash nothing is armed, be the power gone or not.
func TestCrashDisarms(t *testing.T) {
	for _, gone := range []bool{false, true} {
		d, _ := changes()
		d.Arm(0)
		if gone {
			is(t, "Sync", d.Sync(), api.ErrDown)
		}
		d.Fail(0, api.ErrIO)
		d.Arm(3)
		is(t, "Crash", d.Crash(1, 0), api.OK)
		if got := answers(d, 6); !slices.Equal(got, make([]api.Errno, 6)) {
			t.Errorf("gone %v: %v", gone, got)
		}
	}
}

// P6.4, P6.5: a second crash right behind a first changes nothing; one behind new ones takes these back alone.
func TestSecondCrash(t *testing.T) {
	for keep := range 9 {
		for torn := range 4 {
			d, m := changes()
			d.Crash(keep, torn)
			m.crash(keep, torn)
			for _, again := range [][2]int{{0, 0}, {9, 9}, {0, 9}} {
				is(t, "second", d.Crash(again[0], again[1]), api.OK)
				alike(t, "behind a second crash", d, m)
			}
			d.Append(0, []byte("xyz"))
			m.append(0, "xyz")
			d.Cut(0, 1)
			m.cut(0, 1)
			alike(t, "going on", d, m)
			is(t, "third", d.Crash(0, 2), m.crash(0, 2))
			alike(t, "third", d, m)
		}
	}
}

// P6.5: what is synced stays through any crash, till a cut of it is synced or kept.
func TestSyncedStays(t *testing.T) {
	for keep := range 4 {
		for torn := range 4 {
			d := file.New()
			d.Append(1, []byte("kept"))
			d.Sync()
			d.Append(1, []byte("abc"))
			d.Append(1, []byte("def"))
			d.Crash(keep, torn)
			b, e := d.Read(1)
			if e != api.OK || !bytes.HasPrefix(b, []byte("kept")) || !bytes.HasPrefix([]byte("keptabcdef"), b) {
				t.Errorf("Crash(%d, %d): %q, %d", keep, torn, b, e)
			}
		}
	}
	d := file.New()
	d.Append(1, []byte("kept"))
	d.Sync()
	d.Cut(1, 2)
	d.Crash(0, 9)
	holds(t, d, 1, "kept")
	d.Cut(1, 2)
	d.Crash(1, 0)
	holds(t, d, 1, "ke")
}

// P6.5: a crash that keeps all is a sync; Crash(0, 0) takes all back.
func TestCrashAsSync(t *testing.T) {
	synced, _ := changes()
	synced.Sync()
	for _, keep := range []int{7, 8, math.MaxInt} {
		d, _ := changes()
		d.Crash(keep, 0)
		for f := range 3 {
			want, _ := synced.Read(f)
			holds(t, d, f, string(want))
			keeps(t, d, f, string(want))
		}
		pending(t, d, 0)
	}
	d, m := changes()
	d.Crash(0, 0)
	for f := range 3 {
		holds(t, d, f, m.durable[f])
	}
}

// P6.1, R5: a disk that is none, and one that New and Copy did not answer.
func TestNoDisk(t *testing.T) {
	for name, d := range map[string]*file.Disk{"none": nil, "unmade": new(file.Disk), "literal": {}} {
		is(t, name+" Append", d.Append(0, []byte("a")), api.ErrNil)
		is(t, name+" Append of too much to no file", d.Append(3, make([]byte, most+1)), api.ErrNil)
		is(t, name+" Cut", d.Cut(0, 0), api.ErrNil)
		is(t, name+" Cut of no file", d.Cut(3, -1), api.ErrNil)
		is(t, name+" Sync", d.Sync(), api.ErrNil)
		is(t, name+" Arm", d.Arm(0), api.ErrNil)
		is(t, name+" Arm below 0", d.Arm(-1), api.ErrNil)
		is(t, name+" Fail", d.Fail(0, api.ErrIO), api.ErrNil)
		is(t, name+" Fail with none", d.Fail(-1, api.OK), api.ErrNil)
		is(t, name+" Crash", d.Crash(0, 0), api.ErrNil)
		is(t, name+" Crash below 0", d.Crash(-1, -1), api.ErrNil)
		for _, f := range []int{-1, 0, 3} {
			if b, e := d.Read(f); e != api.ErrNil || len(b) != 0 {
				t.Errorf("%s: Read(%d) = %q, %d", name, f, b, e)
			}
			if b, e := d.Durable(f); e != api.ErrNil || len(b) != 0 {
				t.Errorf("%s: Durable(%d) = %q, %d", name, f, b, e)
			}
		}
		pending(t, d, 0)
		if d.Copy() != nil {
			t.Error(name, "has a copy")
		}
	}
}

// P6.1: a copy has all of the disk, its power and what is armed too, and both go their own way.
func TestCopyApart(t *testing.T) {
	d, m := changes()
	c, mc := d.Copy(), m.copy()
	alike(t, "copy", c, mc)
	d.Append(0, []byte("first"))
	m.append(0, "first")
	c.Append(0, []byte("other"))
	mc.append(0, "other")
	alike(t, "disk", d, m)
	alike(t, "copy", c, mc)
	synced, ms := d.Copy(), m.copy()
	synced.Sync()
	ms.sync()
	alike(t, "the disk's own append is the one that it syncs", synced, ms)
	d.Crash(3, 2)
	m.crash(3, 2)
	alike(t, "disk behind its crash", d, m)
	alike(t, "copy behind the disk's crash", c, mc)
	c.Sync()
	mc.sync()
	c.Cut(1, 1)
	mc.cut(1, 1)
	alike(t, "disk behind the copy's sync", d, m)
	alike(t, "copy behind its sync", c, mc)
	third := c.Copy()
	c.Crash(0, 0)
	third.Append(1, []byte("xyz"))
	mc.append(1, "xyz")
	alike(t, "a copy's copy", third, mc)
}

// P6.1, P6.3: what is armed is copied, and each counts for itself.
func TestCopyArmed(t *testing.T) {
	d := file.New()
	d.Arm(3)
	d.Fail(1, api.ErrFull)
	c := d.Copy()
	want := []api.Errno{api.OK, api.ErrFull, api.OK, api.ErrDown, api.ErrDown}
	if got := answers(c, 5); !slices.Equal(got, want) {
		t.Errorf("copy: %v", got)
	}
	if got := answers(d, 2); !slices.Equal(got, want[:2]) {
		t.Errorf("disk: %v", got)
	}
	c = d.Copy()
	c.Arm(9)
	c.Fail(0, api.ErrIO)
	if got := answers(d, 3); !slices.Equal(got, want[2:]) {
		t.Errorf("disk behind its copy was armed: %v", got)
	}
	if got := answers(d.Copy(), 1); got[0] != api.ErrDown {
		t.Errorf("a copy without power: %v", got)
	}
	if got := answers(c, 2); !slices.Equal(got, []api.Errno{api.ErrIO, api.OK}) {
		t.Errorf("copy armed anew: %v", got)
	}
}

// spoil overwrites b and its spare room.
func spoil(b []byte) {
	b = b[:cap(b)]
	for i := range b {
		b[i] ^= 0x5a
	}
}

// R3: what is appended is neither changed nor kept, its spare room neither.
func TestAppendKeepsNothing(t *testing.T) {
	d := file.New()
	room := []byte("abcdefghij")
	before := slices.Clone(room)
	is(t, "Append", d.Append(0, room[:3]), api.OK)
	is(t, "Append", d.Append(0, room[3:5]), api.OK)
	is(t, "Append", d.Append(1, room[:3]), api.OK)
	is(t, "Cut", d.Cut(0, 1), api.OK)
	is(t, "Append", d.Append(0, room[8:]), api.OK)
	is(t, "Cut", d.Cut(1, 0), api.OK)
	is(t, "Append", d.Append(1, room[5:7]), api.OK)
	if !bytes.Equal(room, before) {
		t.Fatalf("%q", room)
	}
	spoil(room)
	again := d.Copy()
	holds(t, d, 0, "aij")
	holds(t, d, 1, "fg")
	is(t, "Crash", d.Crash(2, 0), api.OK)
	holds(t, d, 0, "abcde")
	is(t, "Sync", again.Sync(), api.OK)
	keeps(t, again, 0, "aij")
	keeps(t, again, 1, "fg")
}

// R3: what is read is new: overwritten, its spare room too, it changes neither the disk, nor a copy, nor another answer; and the disk's going on does not change it.
func TestAnswersApart(t *testing.T) {
	d := file.New()
	d.Append(0, []byte("durable"))
	d.Sync()
	d.Append(0, []byte("more"))
	c := d.Copy()
	read, _ := d.Read(0)
	readAgain, _ := d.Read(0)
	durable, _ := d.Durable(0)
	durableAgain, _ := d.Durable(0)
	spoil(read)
	spoil(durable)
	if string(readAgain) != "durablemore" || string(durableAgain) != "durable" {
		t.Fatalf("%q, %q", readAgain, durableAgain)
	}
	for _, x := range []*file.Disk{d, c} {
		holds(t, x, 0, "durablemore")
		keeps(t, x, 0, "durable")
	}
	d.Append(0, []byte("!"))
	d.Cut(0, 2)
	d.Append(0, []byte("XYZXYZXYZ"))
	d.Sync()
	d.Cut(0, 0)
	d.Append(0, []byte("0123456789012345"))
	d.Crash(9, 0)
	if string(readAgain) != "durablemore" || string(durableAgain) != "durable" {
		t.Fatalf("changed by what came behind: %q, %q", readAgain, durableAgain)
	}
	holds(t, c, 0, "durablemore")
}

// dice: numbers that look like no order, the same in each run.
type dice uint64

func (d *dice) below(n int) int {
	*d = *d*6364136223846793005 + 1442695040888963407
	return int(uint64(*d)>>33) % n
}

// P6.1 to P6.5: long scripts of all calls, held against the model behind each call; now and then one goes on with a copy.
func TestScripts(t *testing.T) {
	for seed := range 60 {
		d, m, roll := file.New(), newModel(), dice(seed)
		for i := range 400 {
			what, got, want := "", api.OK, api.OK
			f := roll.below(9) - 1
			if f > 3 {
				f %= 3
			}
			switch roll.below(16) {
			case 0, 1, 2, 3, 4:
				text := "abcdefghij"[:roll.below(6)] + fmt.Sprint(i)
				what, got, want = fmt.Sprintf("Append(%d, %s)", f, text), d.Append(f, []byte(text)), m.append(f, text)
			case 5, 6, 7:
				n := roll.below(12) - 1
				what, got, want = fmt.Sprintf("Cut(%d, %d)", f, n), d.Cut(f, n), m.cut(f, n)
			case 8, 9:
				what, got, want = "Sync", d.Sync(), m.sync()
			case 10:
				n := roll.below(9) - 1
				what, got, want = fmt.Sprintf("Arm(%d)", n), d.Arm(n), m.armed(n)
			case 11:
				n, e := roll.below(9)-1, api.Errno(roll.below(3)+3)
				what, got, want = fmt.Sprintf("Fail(%d, %d)", n, e), d.Fail(n, e), m.failing(n, e)
			case 12, 13, 14:
				keep, torn := roll.below(6)-1, roll.below(6)-1
				what, got, want = fmt.Sprintf("Crash(%d, %d)", keep, torn), d.Crash(keep, torn), m.crash(keep, torn)
			default:
				old := d
				what, d = "Copy", d.Copy()
				old.Crash(roll.below(3), 1)
				old.Append(0, []byte("lost"))
				old.Sync()
			}
			what = fmt.Sprintf("script %d, call %d, %s", seed, i, what)
			is(t, what, got, want)
			alike(t, what, d, m)
		}
	}
}
