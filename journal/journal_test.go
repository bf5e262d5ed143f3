package journal_test

import (
	"bytes"
	"encoding/binary"
	"fmt"
	"hash/crc32"
	"slices"
	"testing"

	"muster/api"
	"muster/file"
	"muster/journal"
)

const (
	maxFile   = 1048576
	maxRecord = 65536
	maxNumber = 1 << 62
)

// wire is an entry's bytes, by the library's own numbers and sums.
func wire(number uint64, kind uint8, body []byte) []byte {
	b := binary.BigEndian.AppendUint32(nil, uint32(9+len(body)))
	b = binary.BigEndian.AppendUint64(b, number)
	b = append(b, kind)
	b = append(b, body...)
	return binary.BigEndian.AppendUint32(b, crc32.ChecksumIEEE(b[4:]))
}

func stateWire(number uint64, text string) []byte {
	return wire(number, 255, []byte(text))
}

// run is the bytes of records from one number to another, each with a body that names it.
func run(from, to int) []byte {
	var b []byte
	for n := from; n <= to; n++ {
		b = append(b, wire(uint64(n), uint8(n%5), bodyOf(n))...)
	}
	return b
}

func bodyOf(n int) []byte {
	return fmt.Appendf(nil, "body %d", n)
}

// entry takes an entry apart and holds it against the bytes that such a one has.
func entry(b []byte, maxBody int) (api.Record, int, bool) {
	if len(b) < 17 {
		return api.Record{}, 0, false
	}
	n := int(binary.BigEndian.Uint32(b)) - 9
	if n < 0 || n > maxBody || n > len(b)-17 {
		return api.Record{}, 0, false
	}
	number, kind, body := binary.BigEndian.Uint64(b[4:]), b[12], b[13:13+n]
	if number > maxNumber || !bytes.HasPrefix(b, wire(number, kind, body)) {
		return api.Record{}, 0, false
	}
	return api.Record{Number: int(number), Kind: kind, Body: bytes.Clone(body)}, 17 + n, true
}

func plainRecords(b []byte, next int) ([]api.Record, int) {
	var l []api.Record
	taken := 0
	for {
		r, n, ok := entry(b[taken:], maxRecord)
		if !ok || r.Number < 1 || next != 0 && r.Number != next {
			return l, taken
		}
		l = append(l, r)
		taken += n
		next = r.Number + 1
	}
}

func sameRecord(a, b api.Record) bool {
	return a.Number == b.Number && a.Kind == b.Kind && bytes.Equal(a.Body, b.Body)
}

func sameRecords(a, b []api.Record) bool {
	return slices.EqualFunc(a, b, sameRecord)
}

// model is the chapter's journal told again, step by step, over a disk of its own.
type model struct {
	d            *file.Disk
	last, synced int
	stateAt      int // 0: there is none
	broken       bool
}

func openModel(d *file.Disk) (*model, []byte, []api.Record, api.Errno) {
	var texts [3][]byte
	for _, f := range []int{1, 2, 0} {
		b, e := d.Read(f)
		if e != api.OK {
			return nil, nil, nil, e
		}
		texts[f] = b
	}
	m := &model{d: d}
	var state []byte
	for _, f := range []int{1, 2} {
		r, n, ok := entry(texts[f], maxFile-17)
		if ok && n == len(texts[f]) && r.Kind == 255 && (m.stateAt == 0 || r.Number > m.last) {
			m.stateAt, m.last, state = f, r.Number, r.Body
		}
	}
	number := m.last
	l, taken := plainRecords(texts[0], 0)
	cut := -1
	if len(l) > 0 && l[0].Number > number+1 {
		return nil, nil, nil, api.ErrRecord
	}
	if len(l) > 0 && l[len(l)-1].Number < number {
		cut = 0
	} else if taken < len(texts[0]) {
		cut = taken
	}
	if cut >= 0 {
		if e := d.Cut(0, cut); e != api.OK {
			return nil, nil, nil, e
		}
		if e := d.Sync(); e != api.OK {
			return nil, nil, nil, e
		}
	}
	if len(l) > 0 {
		m.last = max(m.last, l[len(l)-1].Number)
	}
	m.synced = m.last
	var told []api.Record
	for _, r := range l {
		if r.Number > number {
			told = append(told, r)
		}
	}
	return m, state, told, api.OK
}

// does carries operations out up to the first error, which breaks the model.
func (m *model) does(operations ...func() api.Errno) api.Errno {
	for _, do := range operations {
		if e := do(); e != api.OK {
			m.broken = true
			return e
		}
	}
	return api.OK
}

func (m *model) append(kind uint8, body []byte) (int, api.Errno) {
	switch {
	case m.broken:
		return 0, api.ErrIO
	case kind == 255 || m.last == maxNumber:
		return 0, api.ErrArg
	case len(body) > maxRecord:
		return 0, api.ErrLong
	}
	if e := m.does(func() api.Errno { return m.d.Append(0, wire(uint64(m.last+1), kind, body)) }); e != api.OK {
		return 0, e
	}
	m.last++
	return m.last, api.OK
}

func (m *model) sync() api.Errno {
	if m.broken {
		return api.ErrIO
	}
	e := m.does(m.d.Sync)
	if e == api.OK {
		m.synced = m.last
	}
	return e
}

func (m *model) snapshot(state []byte) api.Errno {
	if m.broken {
		return api.ErrIO
	}
	if len(state) > maxFile-17 {
		return api.ErrLong
	}
	to := 1
	if m.stateAt == 1 {
		to = 2
	}
	e := m.does(
		m.d.Sync,
		func() api.Errno { return m.d.Cut(to, 0) },
		func() api.Errno { return m.d.Append(to, wire(uint64(m.last), 255, state)) },
		m.d.Sync,
		func() api.Errno { return m.d.Cut(0, 0) },
		m.d.Sync,
	)
	if e == api.OK {
		m.stateAt, m.synced = to, m.last
	}
	return e
}

// sameDisks holds all that can be looked at of two disks against each other.
func sameDisks(t *testing.T, what string, got, want *file.Disk) {
	t.Helper()
	if got.Pending() != want.Pending() {
		t.Fatalf("%s: %d operations are unsynced; want %d", what, got.Pending(), want.Pending())
	}
	for f := range 3 {
		a, e := got.Read(f)
		b, e2 := want.Read(f)
		if e != e2 || !bytes.Equal(a, b) {
			t.Fatalf("%s: file %d: %.60x, %d; want %.60x, %d", what, f, a, e, b, e2)
		}
		a, _ = got.Durable(f)
		b, _ = want.Durable(f)
		if !bytes.Equal(a, b) {
			t.Fatalf("%s: file %d durable: %.60x; want %.60x", what, f, a, b)
		}
	}
}

func sameJournal(t *testing.T, what string, j *journal.Journal, m *model) {
	t.Helper()
	if j.Last() != m.last || j.Synced() != m.synced || j.Broken() != m.broken {
		t.Fatalf("%s: Last, Synced, Broken: %d, %d, %v; want %d, %d, %v", what, j.Last(), j.Synced(), j.Broken(), m.last, m.synced, m.broken)
	}
}

// openBoth opens a journal and a model on two disks that are alike, and holds what they tell against each other.
func openBoth(t *testing.T, what string, d, twin *file.Disk) (*journal.Journal, *model) {
	t.Helper()
	j, s, l, e := journal.Open(d)
	m, s2, l2, e2 := openModel(twin)
	if e != e2 || !bytes.Equal(s, s2) || !sameRecords(l, l2) || (j == nil) != (m == nil) {
		t.Fatalf("%s: Open: %v, %.60q, %d records, %d; want %v, %.60q, %d records, %d", what, j, s, len(l), e, m, s2, len(l2), e2)
	}
	if e != api.OK && (s != nil || l != nil) {
		t.Fatalf("%s: Open tells %q, %v beside an error", what, s, l)
	}
	sameDisks(t, what, d, twin)
	if j != nil {
		sameJournal(t, what, j, m)
	}
	return j, m
}

// diskOf is a disk that holds such files, synced.
func diskOf(t *testing.T, files ...[]byte) *file.Disk {
	t.Helper()
	d := file.New()
	for f, b := range files {
		if e := d.Append(f, b); e != api.OK {
			t.Fatal(f, len(b), e)
		}
	}
	if e := d.Sync(); e != api.OK {
		t.Fatal(e)
	}
	return d
}

func opened(t *testing.T, d *file.Disk) (*journal.Journal, string, []api.Record) {
	t.Helper()
	j, s, l, e := journal.Open(d)
	if e != api.OK || j == nil {
		t.Fatalf("Open: %v, %d", j, e)
	}
	return j, string(s), l
}

func appended(t *testing.T, j *journal.Journal, kind uint8, body []byte) int {
	t.Helper()
	n, e := j.Append(kind, body)
	if e != api.OK {
		t.Fatalf("Append(%d, %.20q): %d", kind, body, e)
	}
	return n
}

func ok(t *testing.T, what string, e api.Errno) {
	t.Helper()
	if e != api.OK {
		t.Fatalf("%s: %d", what, e)
	}
}

// dice are numbers that hang on their seed alone.
type dice uint64

func (x *dice) below(n int) int {
	*x = *x*6364136223846793005 + 1442695040888963407
	return int(uint64(*x)>>33) % n
}

func (x *dice) bytes(n int) []byte {
	b := make([]byte, n)
	for i := range b {
		b[i] = byte(x.below(256))
	}
	return b
}

// P7.1: the chapter's example, byte by byte.
func TestRecordBytesExample(t *testing.T) {
	b, e := journal.RecordBytes(api.Record{Number: 1, Kind: 7, Body: []byte("a")})
	ahead := []byte{0, 0, 0, 10, 0, 0, 0, 0, 0, 0, 0, 1, 7, 'a'}
	sum := crc32.ChecksumIEEE([]byte{0, 0, 0, 0, 0, 0, 0, 1, 7, 'a'})
	if e != api.OK || !bytes.Equal(b, binary.BigEndian.AppendUint32(ahead, sum)) {
		t.Fatalf("%x, %d", b, e)
	}
}

// P7.1: each edge of a number and of a body; a number that may not be counts ahead of a body that is too long.
func TestRecordBytes(t *testing.T) {
	numbers := []int{-1 << 63, -1, 0, 1, 2, 255, 256, maxNumber - 1, maxNumber, maxNumber + 1, 1<<63 - 1}
	for _, n := range numbers {
		for _, size := range []int{0, 1, 300, maxRecord - 1, maxRecord, maxRecord + 1} {
			for _, kind := range []uint8{0, 7, 254, 255} {
				body := bytes.Repeat([]byte{0xA5}, size)
				want := api.OK
				if n < 1 || n > maxNumber {
					want = api.ErrArg
				} else if size > maxRecord {
					want = api.ErrLong
				}
				b, e := journal.RecordBytes(api.Record{Number: n, Kind: kind, Body: body})
				if e != want {
					t.Fatalf("number %d, %d bytes: %d; want %d", n, size, e, want)
				}
				if e != api.OK && b != nil {
					t.Fatalf("number %d, %d bytes: %d bytes beside an error", n, size, len(b))
				}
				if e == api.OK && !bytes.Equal(b, wire(uint64(n), kind, body)) {
					t.Fatalf("number %d, %d bytes: %.40x", n, size, b)
				}
			}
		}
	}
	b, e := journal.RecordBytes(api.Record{Number: 3})
	if e != api.OK || !bytes.Equal(b, wire(3, 0, nil)) {
		t.Fatalf("no body: %x, %d", b, e)
	}
}

func tellsLikePlain(t *testing.T, what string, b []byte, next int) {
	t.Helper()
	l, n := journal.Records(b, next)
	l2, n2 := plainRecords(b, next)
	if n != n2 || !sameRecords(l, l2) {
		t.Fatalf("%s, next %d: %v, %d; want %v, %d", what, next, l, n, l2, n2)
	}
}

// P7.1: records one behind the other, with each number that may be asked for first.
func TestRecordsNext(t *testing.T) {
	b := run(5, 9)
	for next, want := range map[int]int{0: 5, 5: 5, 4: 0, 6: 0, 9: 0, 1: 0, -1: 0, -5: 0, maxNumber: 0, 1<<63 - 1: 0, -1 << 63: 0} {
		l, n := journal.Records(b, next)
		if len(l) != want || (n != 0) != (want != 0) {
			t.Fatalf("next %d: %d records, %d bytes; want %d", next, len(l), n, want)
		}
		tellsLikePlain(t, "five records", b, next)
		if want == 0 {
			continue
		}
		if n != len(b) {
			t.Fatalf("next %d: %d bytes; want %d", next, n, len(b))
		}
		for i, r := range l {
			if r.Number != 5+i || r.Kind != uint8((5+i)%5) || !bytes.Equal(r.Body, bodyOf(5+i)) {
				t.Fatalf("next %d: record %d is %v", next, i, r)
			}
		}
	}
}

// P7.1: no bytes have no records.
func TestRecordsNone(t *testing.T) {
	for _, b := range [][]byte{nil, {}, {0}, make([]byte, 16), make([]byte, 17), make([]byte, 100), bytes.Repeat([]byte{255}, 100)} {
		for _, next := range []int{0, 1, 2, -1} {
			if l, n := journal.Records(b, next); len(l) != 0 || n != 0 {
				t.Fatalf("%x, next %d: %v, %d", b, next, l, n)
			}
		}
	}
}

// P7.1: bytes that are cut anywhere tell the whole records ahead of the cut.
func TestRecordsCut(t *testing.T) {
	ends := []int{0}
	b := []byte{}
	for n, body := range []string{"", "a", "some more", ""} {
		b = append(b, wire(uint64(n+1), uint8(n), []byte(body))...)
		ends = append(ends, len(b))
	}
	for cut := range len(b) + 1 {
		whole := 0
		for i, end := range ends {
			if end <= cut {
				whole = i
			}
		}
		for _, next := range []int{0, 1} {
			l, n := journal.Records(b[:cut:cut], next)
			if len(l) != whole || n != ends[whole] {
				t.Fatalf("cut at %d: %d records, %d bytes; want %d, %d", cut, len(l), n, whole, ends[whole])
			}
			tellsLikePlain(t, "cut", b[:cut], next)
		}
		// What is behind the cut is no part of b, though it stands in its spare room.
		if l, n := journal.Records(b[:cut], 0); len(l) != whole || n != ends[whole] {
			t.Fatalf("cut at %d, with room: %d records, %d bytes", cut, len(l), n)
		}
	}
}

// P7.1: what stands behind the records and is none is not told.
func TestRecordsGoOnBehind(t *testing.T) {
	b := run(1, 3)
	tails := [][]byte{{0}, {9}, make([]byte, 40), run(5, 6), run(3, 3), run(2, 4), run(1, 1), stateWire(3, "s"), stateWire(0, "s")}
	for i, tail := range tails {
		all := append(bytes.Clone(b), tail...)
		if l, n := journal.Records(all, 1); len(l) != 3 || n != len(b) {
			t.Fatalf("tail %d: %d records, %d bytes; want 3, %d", i, len(l), n, len(b))
		}
	}
	all := append(bytes.Clone(b), run(4, 6)...)
	if l, n := journal.Records(all, 1); len(l) != 6 || n != len(all) {
		t.Fatalf("going on: %d records, %d bytes", len(l), n)
	}
	// A record may have any kind, a state's too.
	all = append(bytes.Clone(b), stateWire(4, "s")...)
	if l, n := journal.Records(all, 1); len(l) != 4 || n != len(all) || l[3].Kind != 255 {
		t.Fatalf("kind 255: %d records, %d bytes", len(l), n)
	}
}

// P7.1: a byte that is turned ends the records ahead of its own.
func TestRecordsTurned(t *testing.T) {
	b := run(1, 3)
	size := len(b) / 3
	for at := range b {
		for bit := range 8 {
			turned := bytes.Clone(b)
			turned[at] ^= 1 << bit
			l, n := journal.Records(turned, 1)
			if len(l) != at/size || n != at/size*size {
				t.Fatalf("bit %d of byte %d: %d records, %d bytes", bit, at, len(l), n)
			}
			tellsLikePlain(t, "turned", turned, 0)
		}
	}
}

// P7.1: numbers that are not the next one, lengths and numbers that no right record has, though the sum is right.
func TestRecordsWrong(t *testing.T) {
	for _, n := range []uint64{0, 1, 2, 4, 5, maxNumber, maxNumber + 1, 1<<63 + 3, 1<<64 - 1} {
		b := append(run(1, 2), wire(n, 1, []byte("x"))...)
		if l, size := journal.Records(b, 1); len(l) != 2 || size != len(run(1, 2)) {
			t.Fatalf("number %d behind 2: %d records, %d bytes", n, len(l), size)
		}
		right := n >= 1 && n <= maxNumber
		alone := wire(n, 1, []byte("x"))
		if l, size := journal.Records(alone, 0); (len(l) == 1) != right || (size == len(alone)) != right {
			t.Fatalf("number %d alone: %v, %d", n, l, size)
		}
	}
	b := append(wire(maxNumber, 1, nil), wire(maxNumber+1, 1, nil)...)
	if l, size := journal.Records(b, maxNumber); len(l) != 1 || size != 17 {
		t.Fatalf("behind the greatest number: %v, %d", l, size)
	}
	for size, want := range map[int]int{0: 1, maxRecord: 1, maxRecord + 1: 0} {
		b := wire(1, 1, make([]byte, size))
		if l, n := journal.Records(b, 0); len(l) != want || n != want*len(b) {
			t.Fatalf("body of %d: %d records, %d bytes", size, len(l), n)
		}
	}
	// Lengths below 9 say no number and kind: their sum stands where it would.
	for length := range 9 {
		b := binary.BigEndian.AppendUint32(nil, uint32(length))
		inner := []byte{0, 0, 0, 0, 0, 0, 0, 1, 1}[:length]
		b = append(b, inner...)
		b = binary.BigEndian.AppendUint32(b, crc32.ChecksumIEEE(inner))
		b = append(b, make([]byte, 20)...)
		if l, n := journal.Records(b, 0); len(l) != 0 || n != 0 {
			t.Fatalf("length %d: %v, %d", length, l, n)
		}
	}
	for _, length := range []uint32{1 << 31, 1<<32 - 1, 1<<31 - 1, maxFile} {
		b := wire(1, 1, []byte("abc"))
		binary.BigEndian.PutUint32(b, length)
		if l, n := journal.Records(b, 0); len(l) != 0 || n != 0 {
			t.Fatalf("length %d: %v, %d", length, l, n)
		}
	}
}

// P7.1: chance bytes, and chance changes of right ones, are told as the plain reading does.
func TestRecordsScripts(t *testing.T) {
	x := dice(7)
	for i := range 3000 {
		from := 1 + x.below(4)
		b := run(from, from+x.below(5))
		switch x.below(4) {
		case 0:
			b = append(b, x.bytes(x.below(30))...)
		case 1:
			b[x.below(len(b))] = byte(x.below(256))
		case 2:
			at := x.below(len(b))
			b = slices.Delete(b, at, min(len(b), at+x.below(20)))
		case 3:
			b = append(b, run(x.below(10), x.below(10))...)
		}
		for next := range 8 {
			tellsLikePlain(t, fmt.Sprint("script ", i), b, next)
		}
	}
}

// The chapter's examples, one after the other.
func TestExamples(t *testing.T) {
	d := file.New()
	j, s, l := opened(t, d)
	if s != "" || len(l) != 0 || j.Last() != 0 || j.Synced() != 0 || j.Broken() {
		t.Fatal(s, l, j.Last(), j.Synced(), j.Broken())
	}
	if n := appended(t, j, 7, []byte("a")); n != 1 {
		t.Fatal(n)
	}
	if n := appended(t, j, 7, []byte("b")); n != 2 || j.Synced() != 0 {
		t.Fatal(n, j.Synced())
	}
	ok(t, "Sync", j.Sync())
	ok(t, "Crash", d.Crash(0, 0))
	ab := []api.Record{{Number: 1, Kind: 7, Body: []byte("a")}, {Number: 2, Kind: 7, Body: []byte("b")}}
	j, s, l = opened(t, d)
	if s != "" || !sameRecords(l, ab) || j.Last() != 2 || j.Synced() != 2 {
		t.Fatal(s, l, j.Last(), j.Synced())
	}
	if n := appended(t, j, 7, []byte("c")); n != 3 {
		t.Fatal(n)
	}
	ok(t, "Crash", d.Crash(0, 5))
	j, s, l = opened(t, d)
	if b, _ := d.Durable(0); s != "" || !sameRecords(l, ab) || len(b) != 36 {
		t.Fatal(s, l, len(b))
	}
	ok(t, "Snapshot", j.Snapshot([]byte("s")))
	if n := appended(t, j, 8, []byte("d")); n != 3 {
		t.Fatal(n)
	}
	ok(t, "Sync", j.Sync())
	ok(t, "Crash", d.Crash(0, 0))
	j, s, l = opened(t, d)
	if s != "s" || !sameRecords(l, []api.Record{{Number: 3, Kind: 8, Body: []byte("d")}}) || j.Last() != 3 {
		t.Fatal(s, l, j.Last())
	}
}

// P7.2: which file's state is told, whatever the two hold.
func TestOpenStates(t *testing.T) {
	whole := stateWire(5, "five")
	turned := bytes.Clone(whole)
	turned[14] ^= 1
	long := wire(5, 255, make([]byte, maxFile-17))
	contents := map[string][]byte{
		"nothing":         nil,
		"five":            whole,
		"other five":      stateWire(5, "quint"),
		"six":             stateWire(6, "six"),
		"nought":          stateWire(0, "nought"),
		"other nought":    stateWire(0, "zero"),
		"empty":           stateWire(3, ""),
		"greatest":        stateWire(maxNumber, "greatest"),
		"above":           stateWire(maxNumber+1, "above"),
		"far above":       stateWire(1<<64-1, "far above"),
		"cut":             whole[:len(whole)-1],
		"cut within":      whole[:9],
		"going on":        append(bytes.Clone(whole), 0),
		"twice":           append(bytes.Clone(whole), whole...),
		"turned":          turned,
		"a record":        wire(5, 254, []byte("five")),
		"a record of 0":   wire(5, 0, []byte("five")),
		"longest":         long,
		"longest, turned": append(bytes.Clone(long[:len(long)-1]), long[len(long)-1]^1),
		"junk":            []byte("junk that is no state at all"),
		"noughts":         make([]byte, 30),
	}
	for first, b1 := range contents {
		for second, b2 := range contents {
			d := diskOf(t, nil, b1, b2)
			j, m := openBoth(t, first+" and "+second, d, d.Copy())
			if j.Last() != m.last || d.Pending() != 0 {
				t.Fatal(first, second, j.Last(), d.Pending())
			}
		}
	}
}

// P7.2: the same of the words themselves, without the model.
func TestOpenPicksState(t *testing.T) {
	tests := []struct {
		first, second []byte
		want          string
		last          int
	}{
		{nil, nil, "", 0},
		{stateWire(4, "a"), nil, "a", 4},
		{nil, stateWire(4, "b"), "b", 4},
		{stateWire(4, "a"), stateWire(4, "b"), "a", 4},
		{stateWire(5, "a"), stateWire(4, "b"), "a", 5},
		{stateWire(4, "a"), stateWire(5, "b"), "b", 5},
		{stateWire(0, "a"), nil, "a", 0},
		{nil, stateWire(0, "b"), "b", 0},
		{stateWire(0, "a"), stateWire(0, "b"), "a", 0},
		{stateWire(0, "a"), stateWire(1, "b"), "b", 1},
		{stateWire(4, "a")[:20], stateWire(3, "b"), "b", 3},
		{stateWire(2, "a"), append(stateWire(3, "b"), 9), "a", 2},
		{wire(9, 7, []byte("a")), stateWire(3, "b"), "b", 3},
		{stateWire(maxNumber+1, "a"), stateWire(3, "b"), "b", 3},
	}
	for i, x := range tests {
		j, s, l := opened(t, diskOf(t, nil, x.first, x.second))
		if s != x.want || len(l) != 0 || j.Last() != x.last || j.Synced() != x.last || j.Broken() {
			t.Errorf("%d: %q, %v, %d, %d", i, s, l, j.Last(), j.Synced())
		}
	}
}

// P7.2: records below the state, across it, behind it, and with a gap; cut ones and ones with something behind; what is left in file 0.
func TestOpenRecords(t *testing.T) {
	state := stateWire(5, "five")
	tests := []struct {
		name  string
		log   []byte
		state []byte
		err   api.Errno
		last  int
		told  []int
		left  int // bytes of file 0
	}{
		{"none", nil, state, 0, 5, nil, 0},
		{"all below", run(1, 4), state, 0, 5, nil, 0},
		{"one below", run(4, 4), state, 0, 5, nil, 0},
		{"far below", run(1, 1), state, 0, 5, nil, 0},
		{"up to it", run(1, 5), state, 0, 5, nil, len(run(1, 5))},
		{"just it", run(5, 5), state, 0, 5, nil, len(run(5, 5))},
		{"some below", run(3, 8), state, 0, 8, []int{6, 7, 8}, len(run(3, 8))},
		{"the next", run(6, 7), state, 0, 7, []int{6, 7}, len(run(6, 7))},
		{"one more than the next", run(7, 8), state, api.ErrRecord, 0, nil, len(run(7, 8))},
		{"far behind", run(70, 71), state, api.ErrRecord, 0, nil, len(run(70, 71))},
		{"no state, the first", run(1, 3), nil, 0, 3, []int{1, 2, 3}, len(run(1, 3))},
		{"no state, the second", run(2, 3), nil, api.ErrRecord, 0, nil, len(run(2, 3))},
		{"state 0, the first", run(1, 2), stateWire(0, "0"), 0, 2, []int{1, 2}, len(run(1, 2))},
		{"state 0, the second", run(2, 2), stateWire(0, "0"), api.ErrRecord, 0, nil, len(run(2, 2))},
		{"junk", []byte("junk"), state, 0, 5, nil, 0},
		{"junk, no state", []byte("junk"), nil, 0, 0, nil, 0},
		{"below, and junk", append(run(1, 4), 1, 2), state, 0, 5, nil, 0},
		{"across, and junk", append(run(4, 6), 1, 2), state, 0, 6, []int{6}, len(run(4, 6))},
		{"next, and cut", append(run(6, 6), run(7, 7)[:15]...), state, 0, 6, []int{6}, len(run(6, 6))},
		{"gap within", append(run(1, 3), run(5, 7)...), state, 0, 5, nil, 0},
		{"gap behind", append(run(5, 6), run(8, 9)...), state, 0, 6, []int{6}, len(run(5, 6))},
		{"gap, and junk", append(run(7, 8), 1), state, api.ErrRecord, 0, nil, len(run(7, 8)) + 1},
	}
	for _, x := range tests {
		for f := 1; f <= 2; f++ {
			files := [3][]byte{x.log}
			files[f] = x.state
			d := diskOf(t, files[:]...)
			twin := d.Copy()
			j, s, l, e := journal.Open(d)
			var told []int
			for _, r := range l {
				told = append(told, r.Number)
				if !bytes.Equal(r.Body, bodyOf(r.Number)) || r.Kind != uint8(r.Number%5) {
					t.Errorf("%s: %v", x.name, r)
				}
			}
			if e != x.err || j.Last() != x.last || j.Synced() != x.last || !slices.Equal(told, x.told) {
				t.Errorf("%s: %d, last %d, synced %d, %v", x.name, e, j.Last(), j.Synced(), told)
			}
			if e == api.OK && len(x.state) > 0 && string(s) != string(x.state[13:len(x.state)-4]) {
				t.Errorf("%s: state %q", x.name, s)
			}
			if b, _ := d.Durable(0); len(b) != x.left || d.Pending() != 0 {
				t.Errorf("%s: %d bytes are left, %d operations unsynced; want %d bytes", x.name, len(b), d.Pending(), x.left)
			}
			openBoth(t, x.name, twin, twin.Copy())
		}
	}
}

// P7.2: numbers up to the greatest, at which the number behind must not wrap.
func TestOpenGreatest(t *testing.T) {
	greatest := wire(maxNumber, 3, []byte("z"))
	for _, x := range []struct {
		log, state []byte
		err        api.Errno
		last       int
	}{
		{greatest, stateWire(maxNumber-1, "s"), 0, maxNumber},
		{greatest, stateWire(maxNumber, "s"), 0, maxNumber},
		{greatest, stateWire(maxNumber-2, "s"), api.ErrRecord, 0},
		{nil, stateWire(maxNumber, "s"), 0, maxNumber},
		{wire(1, 3, nil), stateWire(maxNumber, "s"), 0, maxNumber},
		{wire(maxNumber+1, 3, nil), stateWire(maxNumber, "s"), 0, maxNumber},
	} {
		d := diskOf(t, x.log, x.state)
		j, _ := openBoth(t, "greatest", d, d.Copy())
		if (j == nil) != (x.err != 0) || j.Last() != x.last {
			t.Errorf("%d, want %d", j.Last(), x.last)
		}
		if j == nil {
			continue
		}
		if n, e := j.Append(1, nil); n != 0 || e != api.ErrArg || j.Broken() || j.Last() != maxNumber {
			t.Errorf("Append at the greatest: %d, %d", n, e)
		}
		ok(t, "Snapshot", j.Snapshot([]byte("last")))
	}
}

// P7.2, P7.3, P7.4: a disk that is none; R5: journals that are none.
func TestNone(t *testing.T) {
	for _, d := range []*file.Disk{nil, new(file.Disk)} {
		if j, s, l, e := journal.Open(d); j != nil || s != nil || l != nil || e != api.ErrNil {
			t.Errorf("Open: %v, %q, %v, %d", j, s, l, e)
		}
	}
	for _, j := range []*journal.Journal{nil, new(journal.Journal), {}} {
		for _, kind := range []uint8{0, 255} {
			if n, e := j.Append(kind, make([]byte, maxRecord+1)); n != 0 || e != api.ErrNil {
				t.Errorf("Append: %d, %d", n, e)
			}
		}
		if n, e := j.Append(1, nil); n != 0 || e != api.ErrNil {
			t.Errorf("Append: %d, %d", n, e)
		}
		if e := j.Sync(); e != api.ErrNil {
			t.Errorf("Sync: %d", e)
		}
		for _, size := range []int{0, 1, maxFile} {
			if e := j.Snapshot(make([]byte, size)); e != api.ErrNil {
				t.Errorf("Snapshot: %d", e)
			}
		}
		if j.Last() != 0 || j.Synced() != 0 || j.Broken() {
			t.Error(j.Last(), j.Synced(), j.Broken())
		}
	}
}

// P7.2: a disk without power, and one whose operations fail at each place of an Open; what ErrRecord stops does no operation.
func TestOpenFails(t *testing.T) {
	logs := map[string][]byte{
		"torn":       append(run(1, 2), 1, 2, 3),
		"stale":      run(1, 2),
		"fine":       run(4, 6),
		"gap":        run(9, 9),
		"gap, torn":  append(run(9, 9), 1),
		"junk":       []byte("junk"),
		"none":       nil,
		"below torn": append(run(1, 2), 1),
	}
	for name, log := range logs {
		for ops := range 4 {
			for _, how := range []api.Errno{api.ErrDown, api.ErrIO, api.ErrFull} {
				d := diskOf(t, log, stateWire(4, "four"))
				ok(t, "stop", stop(d, ops, how))
				j, m := openBoth(t, fmt.Sprint(name, ops, how), d, stoppedTwin(t, log, ops, how))
				if (j == nil) != (m == nil) {
					t.Fatal(name, ops, how)
				}
			}
		}
		d := diskOf(t, log)
		ok(t, "Arm", d.Arm(0))
		d.Sync()
		if j, s, l, e := journal.Open(d); j != nil || s != nil || l != nil || e != api.ErrDown {
			t.Errorf("%s, without power: %v, %q, %v, %d", name, j, s, l, e)
		}
		ok(t, "Crash", d.Crash(0, 0))
	}
	d := diskOf(t, append(run(1, 2), 1))
	ok(t, "Fail", d.Fail(0, api.ErrFull))
	if j, _, _, e := journal.Open(d); j != nil || e != api.ErrFull || d.Pending() != 0 {
		t.Errorf("the cut fails: %d, %d unsynced", e, d.Pending())
	}
	ok(t, "Fail", d.Fail(1, api.ErrIO))
	if j, _, _, e := journal.Open(d); j != nil || e != api.ErrIO || d.Pending() != 1 {
		t.Errorf("the sync fails: %d, %d unsynced", e, d.Pending())
	}
}

// stop lets the operation behind the next ops ones fail in such a way.
func stop(d *file.Disk, ops int, how api.Errno) api.Errno {
	if how == api.ErrDown {
		return d.Arm(ops)
	}
	return d.Fail(ops, how)
}

func stoppedTwin(t *testing.T, log []byte, ops int, how api.Errno) *file.Disk {
	t.Helper()
	d := diskOf(t, log, stateWire(4, "four"))
	ok(t, "stop", stop(d, ops, how))
	return d
}

// P7.3: each kind; bodies of no bytes, of the most and of one more; the first named error counts; a refusal breaks nothing.
func TestAppend(t *testing.T) {
	d := file.New()
	j, _, _ := opened(t, d)
	var want []byte
	for kind := range 255 {
		body := bytes.Repeat([]byte{byte(kind)}, kind%4)
		if n := appended(t, j, uint8(kind), body); n != kind+1 || j.Last() != n || j.Synced() != 0 {
			t.Fatal(n, j.Last(), j.Synced())
		}
		want = append(want, wire(uint64(kind+1), uint8(kind), body)...)
	}
	long := make([]byte, maxRecord+1)
	for _, x := range []struct {
		kind uint8
		body []byte
		want api.Errno
	}{{255, nil, api.ErrArg}, {255, long, api.ErrArg}, {254, long, api.ErrLong}, {0, long, api.ErrLong}} {
		if n, e := j.Append(x.kind, x.body); n != 0 || e != x.want {
			t.Errorf("Append(%d, %d bytes): %d, %d", x.kind, len(x.body), n, e)
		}
	}
	if b, _ := d.Read(0); !bytes.Equal(b, want) || j.Last() != 255 || j.Broken() || d.Pending() != 255 {
		t.Fatal(len(b), len(want), j.Last(), j.Broken(), d.Pending())
	}
	if n := appended(t, j, 1, long[:maxRecord]); n != 256 {
		t.Fatal(n)
	}
	want = append(want, wire(256, 1, long[:maxRecord])...)
	if b, _ := d.Read(0); !bytes.Equal(b, want) {
		t.Fatal("the longest record")
	}
	if b, _ := d.Durable(0); len(b) != 0 {
		t.Fatal("durable ahead of its sync")
	}
	ok(t, "Sync", j.Sync())
	if b, _ := d.Durable(0); !bytes.Equal(b, want) || j.Synced() != 256 || d.Pending() != 0 {
		t.Fatal(len(b), j.Synced(), d.Pending())
	}
	_, _, l := opened(t, d)
	if len(l) != 256 || len(l[255].Body) != maxRecord {
		t.Fatal(len(l))
	}
}

// P7.3: at the greatest number ErrArg comes ahead of ErrLong, and the number below is still given.
func TestAppendGreatest(t *testing.T) {
	d := diskOf(t, nil, nil, stateWire(maxNumber-1, "s"))
	j, _, _ := opened(t, d)
	if n, e := j.Append(1, make([]byte, maxRecord+1)); n != 0 || e != api.ErrLong {
		t.Error(n, e)
	}
	if n := appended(t, j, 1, []byte("z")); n != maxNumber || j.Last() != maxNumber {
		t.Error(n)
	}
	if n, e := j.Append(1, make([]byte, maxRecord+1)); n != 0 || e != api.ErrArg {
		t.Error(n, e)
	}
	if n, e := j.Append(1, nil); n != 0 || e != api.ErrArg || j.Broken() {
		t.Error(n, e, j.Broken())
	}
	ok(t, "Sync", j.Sync())
	ok(t, "Snapshot", j.Snapshot([]byte("end")))
	j, s, l := opened(t, d)
	if s != "end" || len(l) != 0 || j.Last() != maxNumber {
		t.Error(s, l, j.Last())
	}
}

// P7.3: a file without room breaks the journal; what was there is told again.
func TestAppendFull(t *testing.T) {
	d := file.New()
	j, _, _ := opened(t, d)
	body := make([]byte, maxRecord)
	count := maxFile / (maxRecord + 17)
	for range count {
		appended(t, j, 1, body)
	}
	room := maxFile - count*(maxRecord+17)
	for _, more := range []int{1, 0} {
		twin := d.Copy()
		k, _, _ := opened(t, twin)
		n, e := k.Append(2, body[:room-17+more])
		want := api.OK
		if more > 0 {
			want = api.ErrFull
		}
		if e != want || k.Broken() != (more > 0) || k.Last() != count+1-more {
			t.Fatalf("%d bytes more: %d, %d, %v, %d", more, n, e, k.Broken(), k.Last())
		}
	}
	if n, e := j.Append(2, body[:room-16]); n != 0 || e != api.ErrFull || !j.Broken() || j.Last() != count {
		t.Fatal(n, e, j.Last())
	}
	brokenAnswers(t, "full", j, d)
	j, _, l := opened(t, d)
	if len(l) != count || j.Last() != count {
		t.Fatal(len(l), j.Last())
	}
}

// brokenAnswers asks a broken journal everything: ErrIO comes behind ErrNil alone, and the disk is left as it is.
func brokenAnswers(t *testing.T, what string, j *journal.Journal, d *file.Disk) {
	t.Helper()
	was, last, synced := d.Copy(), j.Last(), j.Synced()
	long := make([]byte, maxFile)
	for _, kind := range []uint8{1, 255} {
		for _, body := range [][]byte{nil, long} {
			if n, e := j.Append(kind, body); n != 0 || e != api.ErrIO {
				t.Fatalf("%s: Append(%d, %d bytes): %d, %d", what, kind, len(body), n, e)
			}
		}
	}
	if e := j.Sync(); e != api.ErrIO {
		t.Fatalf("%s: Sync: %d", what, e)
	}
	for _, state := range [][]byte{nil, []byte("s"), long} {
		if e := j.Snapshot(state); e != api.ErrIO {
			t.Fatalf("%s: Snapshot of %d bytes: %d", what, len(state), e)
		}
	}
	if !j.Broken() || j.Last() != last || j.Synced() != synced {
		t.Fatalf("%s: %v, %d, %d", what, j.Broken(), j.Last(), j.Synced())
	}
	sameDisks(t, what, d, was)
}

// P7.3, P7.5: an operation that fails breaks the journal with its own error; nothing that was told changes.
func TestAppendAndSyncFail(t *testing.T) {
	for _, how := range []api.Errno{api.ErrDown, api.ErrIO, api.ErrFull} {
		for _, doSync := range []bool{false, true} {
			d := file.New()
			j, _, _ := opened(t, d)
			appended(t, j, 1, []byte("a"))
			ok(t, "Sync", j.Sync())
			appended(t, j, 1, []byte("b"))
			ok(t, "stop", stop(d, 0, how))
			var n int
			var e api.Errno
			if doSync {
				e = j.Sync()
			} else {
				n, e = j.Append(2, []byte("c"))
			}
			if n != 0 || e != how || !j.Broken() || j.Last() != 2 || j.Synced() != 1 {
				t.Fatalf("%d, sync %v: %d, %d, %v, %d, %d", how, doSync, n, e, j.Broken(), j.Last(), j.Synced())
			}
			brokenAnswers(t, fmt.Sprint(how, doSync), j, d)
			ok(t, "Crash", d.Crash(0, 0))
			brokenAnswers(t, "behind a crash", j, d)
			k, _, l := opened(t, d)
			if len(l) != 1 || k.Last() != 1 || k.Broken() {
				t.Fatal(l, k.Last())
			}
		}
	}
}

// P7.3: refusals ahead of the disk's ask no operation of it.
func TestRefusalsAskNoOperation(t *testing.T) {
	d := file.New()
	j, _, _ := opened(t, d)
	appended(t, j, 1, nil)
	ok(t, "Fail", d.Fail(0, api.ErrIO))
	j.Append(255, nil)
	j.Append(1, make([]byte, maxRecord+1))
	j.Snapshot(make([]byte, maxFile-16))
	if j.Broken() {
		t.Fatal("broken by a refusal")
	}
	if e := d.Sync(); e != api.ErrIO {
		t.Fatalf("a refusal took the fault: %d", e)
	}
}

// P7.4: each Snapshot takes the file that the state that stands is not in; number, bytes and syncs are as they are named.
func TestSnapshot(t *testing.T) {
	d := file.New()
	j, _, _ := opened(t, d)
	ok(t, "Snapshot", j.Snapshot([]byte("nought")))
	wantFiles(t, "the first", d, nil, stateWire(0, "nought"), nil)
	appended(t, j, 1, []byte("a"))
	appended(t, j, 2, []byte("b"))
	if j.Synced() != 0 {
		t.Fatal(j.Synced())
	}
	ok(t, "Snapshot", j.Snapshot([]byte("two")))
	if j.Synced() != 2 || j.Last() != 2 || j.Broken() {
		t.Fatal(j.Synced(), j.Last())
	}
	wantFiles(t, "the second", d, nil, stateWire(0, "nought"), stateWire(2, "two"))
	if n := appended(t, j, 3, nil); n != 3 {
		t.Fatal(n)
	}
	ok(t, "Snapshot", j.Snapshot(nil))
	wantFiles(t, "the third", d, nil, stateWire(3, ""), stateWire(2, "two"))
	ok(t, "Snapshot", j.Snapshot([]byte("again")))
	wantFiles(t, "the fourth", d, nil, stateWire(3, ""), stateWire(3, "again"))
	ok(t, "Snapshot", j.Snapshot([]byte("and again")))
	wantFiles(t, "the fifth", d, nil, stateWire(3, "and again"), stateWire(3, "again"))
}

// wantFiles holds the disk's files against such bytes, all of them durable.
func wantFiles(t *testing.T, what string, d *file.Disk, files ...[]byte) {
	t.Helper()
	sameDisks(t, what, d, diskOf(t, files...))
}

// P7.4: behind an Open the file of the state that it told is left alone.
func TestSnapshotBehindOpen(t *testing.T) {
	tests := []struct {
		first, second []byte
		to            int
	}{
		{nil, nil, 1},
		{stateWire(4, "a"), nil, 2},
		{nil, stateWire(4, "b"), 1},
		{stateWire(4, "a"), stateWire(4, "b"), 2},
		{stateWire(5, "a"), stateWire(4, "b"), 2},
		{stateWire(4, "a"), stateWire(5, "b"), 1},
		{stateWire(0, "a"), nil, 2},
		{nil, stateWire(0, "b"), 1},
		{[]byte("junk"), nil, 1},
		{nil, []byte("junk"), 1},
		{[]byte("junk"), []byte("junk"), 1},
		{stateWire(9, "a")[:9], stateWire(0, ""), 1},
		{stateWire(0, ""), []byte("junk"), 2},
	}
	for i, x := range tests {
		d := diskOf(t, nil, x.first, x.second)
		j, _, _ := opened(t, d)
		ok(t, "Snapshot", j.Snapshot([]byte("new")))
		want := [3][]byte{nil, x.first, x.second}
		want[x.to] = stateWire(uint64(j.Last()), "new")
		wantFiles(t, fmt.Sprint("test ", i), d, want[:]...)
	}
}

// P7.4: the longest state, and one byte more, which changes nothing.
func TestSnapshotLongest(t *testing.T) {
	d := file.New()
	j, _, _ := opened(t, d)
	appended(t, j, 1, []byte("a"))
	state := bytes.Repeat([]byte{0x5A}, maxFile-16)
	for range 2 {
		if e := j.Snapshot(state); e != api.ErrLong || j.Broken() || j.Synced() != 0 || d.Pending() != 1 {
			t.Fatal(e, j.Broken(), j.Synced(), d.Pending())
		}
	}
	ok(t, "Snapshot", j.Snapshot(state[:maxFile-17]))
	wantFiles(t, "the longest", d, nil, wire(1, 255, state[:maxFile-17]))
	k, s, l := opened(t, d)
	if s != string(state[:maxFile-17]) || len(l) != 0 || k.Last() != 1 {
		t.Fatal(len(s), l, k.Last())
	}
	ok(t, "Snapshot", k.Snapshot(state[:maxFile-17]))
	wantFiles(t, "the longest twice", d, nil, wire(1, 255, state[:maxFile-17]), wire(1, 255, state[:maxFile-17]))
}

// P7.4: each of the six operations fails in each way: its error breaks the journal, those ahead of it are done and no other.
func TestSnapshotFails(t *testing.T) {
	for _, how := range []api.Errno{api.ErrDown, api.ErrIO, api.ErrFull} {
		for ops := range 8 {
			for snapshots := range 3 {
				d, twin := file.New(), file.New()
				j, m := openBoth(t, "new", d, twin)
				for i := range snapshots {
					appended(t, j, 1, []byte("x"))
					m.append(1, []byte("x"))
					ok(t, "Snapshot", j.Snapshot(bodyOf(i)))
					m.snapshot(bodyOf(i))
				}
				appended(t, j, 1, []byte("y"))
				m.append(1, []byte("y"))
				stop(d, ops, how)
				stop(twin, ops, how)
				what := fmt.Sprint(how, " behind ", ops, " with ", snapshots)
				e := j.Snapshot([]byte("new"))
				if want := m.snapshot([]byte("new")); e != want || (e == api.OK) != (ops >= 6) || e != api.OK && e != how {
					t.Fatalf("%s: %d; want %d", what, e, want)
				}
				sameJournal(t, what, j, m)
				if e != api.OK {
					if j.Synced() != snapshots {
						t.Fatalf("%s: Synced() = %d", what, j.Synced())
					}
					brokenAnswers(t, what, j, d)
				}
				sameDisks(t, what, d, twin)
				d.Crash(9, 0)
				twin.Crash(9, 0)
				openBoth(t, what, d, twin)
			}
		}
	}
}

// history is what was handed in: bodies by their numbers, states with theirs, and up to where all was synced.
type history struct {
	bodies [][]byte // bodies[i] is record i + 1's
	states map[string]int
	synced int
}

// kept is P7.6 of a disk behind a crash: a state that was handed in, the records behind it with none left out, up to the last synced one at least, none that was not appended. It is the journal that Open tells.
func (h *history) kept(t *testing.T, what string, d *file.Disk) *journal.Journal {
	t.Helper()
	j, s, l, e := journal.Open(d)
	if e != api.OK {
		t.Fatalf("%s: Open: %d", what, e)
	}
	number, known := h.states[string(s)]
	if !known {
		t.Fatalf("%s: the state %q was not handed in", what, s)
	}
	for i, r := range l {
		if r.Number != number+1+i || r.Number > len(h.bodies) {
			t.Fatalf("%s: record %d behind the state %d has the number %d", what, i, number, r.Number)
		}
		if !bytes.Equal(r.Body, h.bodies[r.Number-1]) || r.Kind != uint8(r.Number%200) {
			t.Fatalf("%s: record %v is not as it was appended", what, r)
		}
	}
	if j.Last() != number+len(l) || j.Last() < h.synced {
		t.Fatalf("%s: Last() is %d; %d were synced", what, j.Last(), h.synced)
	}
	return j
}

func (h *history) append(t *testing.T, j *journal.Journal) api.Errno {
	t.Helper()
	n := j.Last() + 1
	body := fmt.Appendf(nil, "%d at %d", n, len(h.bodies))
	got, e := j.Append(uint8(n%200), body)
	if e == api.OK && got != n {
		t.Fatalf("Append: %d; want %d", got, n)
	}
	if e == api.OK {
		h.bodies = append(h.bodies[:n-1:n-1], body)
	}
	return e
}

// goesOn appends, syncs and snapshots behind a crash, with a crash behind each that keeps nothing unsynced.
func (h *history) goesOn(t *testing.T, what string, d *file.Disk) {
	t.Helper()
	h = &history{bodies: slices.Clone(h.bodies), states: h.states, synced: h.synced}
	j := h.kept(t, what, d)
	h.bodies = h.bodies[:j.Last()]
	ok(t, what, h.append(t, j))
	ok(t, what, j.Sync())
	h.synced = j.Last()
	d.Crash(0, 0)
	j = h.kept(t, what+", a record more", d)
	state := fmt.Sprint("state at ", j.Last())
	h.states = map[string]int{state: j.Last()}
	ok(t, what, j.Snapshot([]byte(state)))
	ok(t, what, h.append(t, j))
	ok(t, what, j.Sync())
	h.synced = j.Last()
	d.Crash(0, 0)
	h.kept(t, what+", a state more", d)
}

// eachCrash hands a copy of the disk on for each crash that may be: each keep, and of an append each number of bytes.
func eachCrash(t *testing.T, d *file.Disk, see func(what string, crashed *file.Disk)) {
	t.Helper()
	for keep := range d.Pending() + 1 {
		for torn := range 45 {
			c := d.Copy()
			ok(t, "Crash", c.Crash(keep, torn))
			see(fmt.Sprintf("keep %d, torn %d", keep, torn), c)
		}
	}
}

// P7.6: a crash behind every operation of a Snapshot, with each keep and each torn append, and of the Open behind it with a crash behind each of its operations, too.
func TestKeptInSnapshot(t *testing.T) {
	for snapshots := range 4 {
		for unsynced := range 3 {
			for ops := range 8 {
				d := file.New()
				h := &history{states: map[string]int{"": 0}}
				j := h.kept(t, "new", d)
				for i := range snapshots {
					ok(t, "Append", h.append(t, j))
					state := fmt.Sprint("state ", i)
					h.states[state] = j.Last()
					ok(t, "Snapshot", j.Snapshot([]byte(state)))
				}
				ok(t, "Append", h.append(t, j))
				ok(t, "Sync", j.Sync())
				h.synced = j.Synced()
				for range unsynced {
					ok(t, "Append", h.append(t, j))
				}
				ok(t, "Arm", d.Arm(ops))
				h.states["new"] = j.Last()
				if e := j.Snapshot([]byte("new")); (e == api.OK) != (ops >= 6) {
					t.Fatal(e, ops)
				}
				h.synced = j.Synced()
				name := fmt.Sprintf("%d snapshots, %d unsynced, %d operations", snapshots, unsynced, ops)
				eachCrash(t, d, func(what string, crashed *file.Disk) {
					h.keptThroughOpens(t, name+", "+what, crashed)
				})
			}
		}
	}
}

// keptThroughOpens opens with a crash behind each operation of the Open, and then goes on.
func (h *history) keptThroughOpens(t *testing.T, what string, d *file.Disk) {
	t.Helper()
	for ops := range 3 {
		c := d.Copy()
		ok(t, "Arm", c.Arm(ops))
		journal.Open(c)
		for keep := range c.Pending() + 1 {
			again := c.Copy()
			ok(t, "Crash", again.Crash(keep, 3))
			h.goesOn(t, fmt.Sprintf("%s, Open with %d operations, keep %d", what, ops, keep), again)
		}
	}
	h.goesOn(t, what, d)
}

// P7.6: a crash in an Open that cuts records below the state.
func TestKeptInOpen(t *testing.T) {
	for _, tail := range [][]byte{nil, {1, 2, 3}, run(5, 5)[:16]} {
		d := diskOf(t, append(run(1, 2), tail...), stateWire(4, "four"), stateWire(2, "two"))
		h := &history{states: map[string]int{"four": 4}, bodies: make([][]byte, 4), synced: 4}
		h.keptThroughOpens(t, "stale records", d)
	}
}

// P7.2 to P7.5: long scripts of all calls upon a journal and its disk, with faults, crashes and bytes from elsewhere, told as the model tells them.
func TestScripts(t *testing.T) {
	for seed := range 60 {
		x := dice(seed*2654435761 + 1)
		d, twin := file.New(), file.New()
		j, m := openBoth(t, "new", d, twin)
		for i := range 250 {
			what := fmt.Sprintf("seed %d, step %d", seed, i)
			j, m = oneStep(t, what, &x, j, m, d, twin)
			sameDisks(t, what, d, twin)
			if j != nil {
				sameJournal(t, what, j, m)
			}
		}
	}
}

func oneStep(t *testing.T, what string, x *dice, j *journal.Journal, m *model, d, twin *file.Disk) (*journal.Journal, *model) {
	t.Helper()
	both := func(do func(d *file.Disk) api.Errno) { do(d); do(twin) }
	switch x.below(12) {
	case 0, 1, 2, 3:
		if j != nil {
			stepAppend(t, what, x, j, m)
		}
	case 4, 5:
		if j != nil {
			if e, want := j.Sync(), m.sync(); e != want {
				t.Fatalf("%s: Sync: %d; want %d", what, e, want)
			}
		}
	case 6:
		if j != nil {
			state := x.bytes(x.below(40))
			if e, want := j.Snapshot(state), m.snapshot(state); e != want {
				t.Fatalf("%s: Snapshot: %d; want %d", what, e, want)
			}
		}
	case 7:
		ops, how := x.below(7), []api.Errno{api.ErrDown, api.ErrIO, api.ErrFull}[x.below(3)]
		both(func(d *file.Disk) api.Errno { return stop(d, ops, how) })
	case 8:
		if x.below(4) == 0 {
			f, junk := x.below(3), elsewhere(x, m)
			both(func(d *file.Disk) api.Errno { return d.Append(f, junk) })
		}
	case 9:
		return openBoth(t, what, d, twin)
	default:
		keep, torn := x.below(4), x.below(30)
		both(func(d *file.Disk) api.Errno { return d.Crash(keep, torn) })
		return openBoth(t, what, d, twin)
	}
	return j, m
}

func stepAppend(t *testing.T, what string, x *dice, j *journal.Journal, m *model) {
	t.Helper()
	kind, body := uint8(x.below(4)), x.bytes(x.below(20))
	switch x.below(40) {
	case 0:
		kind = 255
	case 1:
		body = make([]byte, maxRecord+1)
	}
	n, e := j.Append(kind, body)
	if n2, e2 := m.append(kind, body); n != n2 || e != e2 {
		t.Fatalf("%s: Append: %d, %d; want %d, %d", what, n, e, n2, e2)
	}
}

// elsewhere is bytes that somebody else puts behind a file.
func elsewhere(x *dice, m *model) []byte {
	number := x.below(8)
	if m != nil {
		number = max(0, m.last-2+x.below(5))
	}
	switch x.below(3) {
	case 0:
		return x.bytes(x.below(20))
	case 1:
		return stateWire(uint64(number), "elsewhere")
	default:
		return run(max(1, number), number+x.below(2))
	}
}

// guarded is a copy of text with spare room, and a check that neither has changed.
func guarded(t *testing.T, text []byte) ([]byte, func(what string)) {
	t.Helper()
	room := append(bytes.Clone(text), bytes.Repeat([]byte{0xEE}, 64)...)
	return room[:len(text)], func(what string) {
		t.Helper()
		if !bytes.Equal(room[:len(text)], text) || !bytes.Equal(room[len(text):], bytes.Repeat([]byte{0xEE}, 64)) {
			t.Errorf("%s changed what it was handed", what)
		}
	}
}

func spoil(b []byte) {
	b = b[:cap(b)]
	for i := range b {
		b[i] ^= 0xFF
	}
}

// R3: what is handed in is not changed, nor kept.
func TestArgumentsStay(t *testing.T) {
	body, unchanged := guarded(t, []byte("body"))
	b, _ := journal.RecordBytes(api.Record{Number: 1, Body: body})
	unchanged("RecordBytes")
	spoil(b)
	unchanged("spoiling RecordBytes's answer")

	log, logUnchanged := guarded(t, run(1, 4))
	l, _ := journal.Records(log, 0)
	logUnchanged("Records")
	for _, r := range l {
		spoil(r.Body)
	}
	logUnchanged("spoiling Records' answer")

	d := file.New()
	j, _, _ := opened(t, d)
	appended(t, j, 1, body)
	unchanged("Append")
	state, stateUnchanged := guarded(t, []byte("state"))
	ok(t, "Snapshot", j.Snapshot(state))
	stateUnchanged("Snapshot")
	appended(t, j, 1, body)
	spoil(body)
	spoil(state)
	_, s, l := opened(t, d)
	if s != "state" || len(l) != 1 || string(l[0].Body) != "body" {
		t.Error("kept what it was handed:", s, l)
	}
}

// R3: no two lists of the answers share memory, spare room too; nor do they with the disk.
func TestAnswersAreNew(t *testing.T) {
	d := diskOf(t, run(3, 9), stateWire(4, "four"))
	j, s, l, _ := journal.Open(d)
	_, s2, l2, _ := journal.Open(d)
	spoil(s)
	if string(s2) != "four" {
		t.Error("states are shared")
	}
	for i := range l {
		spoil(l[i].Body)
		for k := i + 1; k < len(l); k++ {
			if !bytes.Equal(l[k].Body, bodyOf(l[k].Number)) {
				t.Fatalf("bodies %d and %d share memory", i, k)
			}
		}
	}
	for i := range l {
		l[i] = api.Record{}
	}
	for i, r := range l2 {
		if r.Number != 5+i || !bytes.Equal(r.Body, bodyOf(5+i)) {
			t.Fatal("lists are shared")
		}
	}
	wantFiles(t, "spoilt answers", d, run(3, 9), stateWire(4, "four"))
	if n := appended(t, j, 1, nil); n != 10 {
		t.Error(n)
	}
	if a, _ := journal.RecordBytes(api.Record{Number: 1}); cap(a) > 0 {
		spoil(a)
		if b, _ := journal.RecordBytes(api.Record{Number: 1}); !bytes.Equal(b, wire(1, 0, nil)) {
			t.Error("RecordBytes' answers are shared")
		}
	}
}

// P7.2: the journal shares its disk: two of one disk see what each other wrote when they are opened.
func TestDiskIsShared(t *testing.T) {
	d := file.New()
	j, _, _ := opened(t, d)
	appended(t, j, 1, []byte("a"))
	if d.Pending() != 1 {
		t.Fatal(d.Pending())
	}
	k, _, l := opened(t, d)
	if len(l) != 1 || k.Last() != 1 || k.Synced() != 1 || d.Pending() != 1 {
		t.Fatal(l, k.Last(), k.Synced(), d.Pending())
	}
	appended(t, k, 1, []byte("b"))
	if j.Last() != 1 || k.Last() != 2 {
		t.Fatal(j.Last(), k.Last())
	}
}
