package frame_test

import (
	"bytes"
	"encoding/binary"
	"hash/crc32"
	"slices"
	"testing"

	"muster/api"
	"muster/frame"
)

// pattern: n bytes that look like no run, the same at each call.
func pattern(n int, seed uint32) []byte {
	b := make([]byte, n)
	for i := range b {
		seed = seed*1664525 + 1013904223
		b[i] = byte(seed >> 24)
	}
	return b
}

// written is the chapter's form of a frame, put together by the library, to hold the program's against.
func written(kind uint8, body []byte) []byte {
	b := binary.BigEndian.AppendUint32(nil, uint32(len(body)+1))
	b = append(append(b, kind), body...)
	return binary.BigEndian.AppendUint32(b, crc32.ChecksumIEEE(b[4:]))
}

func joined(parts ...[]byte) []byte {
	return slices.Concat(parts...)
}

func same(a, b []api.Frame) bool {
	return slices.EqualFunc(a, b, func(x, y api.Frame) bool {
		return x.Kind == y.Kind && bytes.Equal(x.Body, y.Body)
	})
}

// spoilt overwrites b and its spare room.
func spoilt(b []byte) {
	b = b[:cap(b)]
	for i := range b {
		b[i] ^= 0xa5
	}
}

// feed feeds b and asks for the frames, the error and what is left behind it.
func feed(t *testing.T, r *frame.Reader, b []byte, want []api.Frame, err api.Errno, left int) {
	t.Helper()
	got, e := r.Feed(b)
	if !same(got, want) || e != err {
		t.Fatalf("Feed of %d bytes: %d frames, %d; want %d frames, %d", len(b), len(got), e, len(want), err)
	}
	if n := r.Left(); n != left {
		t.Fatalf("Left() = %d behind %d bytes; want %d", n, len(b), left)
	}
}

func one(kind uint8, body []byte) []api.Frame {
	return []api.Frame{{Kind: kind, Body: body}}
}

// bodies: none in both ways, short ones, and those at the limit.
func bodies() [][]byte {
	bs := [][]byte{nil, {}, {0}, {0xff}, []byte("ab"), make([]byte, 4), pattern(255, 1), pattern(256, 2), pattern(65534, 3), pattern(65535, 4), make([]byte, 65535)}
	for n := range 20 {
		bs = append(bs, pattern(n, uint32(n)))
	}
	return bs
}

// P3.1, example 1.
func TestPutExample(t *testing.T) {
	got, e := frame.Put(api.Frame{Kind: 5, Body: []byte{0x61, 0x62}})
	want := []byte{0, 0, 0, 3, 5, 0x61, 0x62}
	if e != api.OK || len(got) != 11 || !bytes.Equal(got[:7], want) {
		t.Fatalf("Put = % x, %d", got, e)
	}
	if sum := binary.BigEndian.Uint32(got[7:]); sum != crc32.ChecksumIEEE(want[4:]) {
		t.Errorf("sum %08x", sum)
	}
}

// P3.1: any kind, and bodies from none up to 65535 bytes.
func TestPutBytes(t *testing.T) {
	for kind := range 256 {
		for _, body := range [][]byte{nil, []byte("ab")} {
			got, e := frame.Put(api.Frame{Kind: uint8(kind), Body: body})
			if e != api.OK || !bytes.Equal(got, written(uint8(kind), body)) {
				t.Fatalf("kind %d: % x, %d", kind, got, e)
			}
		}
	}
	for _, body := range bodies() {
		got, e := frame.Put(api.Frame{Kind: 7, Body: body})
		if e != api.OK || len(got) != len(body)+9 || !bytes.Equal(got, written(7, body)) {
			t.Fatalf("body of %d bytes: %d bytes, %d", len(body), len(got), e)
		}
	}
}

// P3.1: a body of more than 65535 bytes; R2: no bytes beside the error.
func TestPutTooLong(t *testing.T) {
	for _, n := range []int{65536, 65537, 1 << 17, 1<<17 + 2} {
		if got, e := frame.Put(api.Frame{Kind: 1, Body: make([]byte, n)}); e != api.ErrLong || len(got) != 0 {
			t.Errorf("body of %d bytes: %d bytes, %d", n, len(got), e)
		}
	}
}

// P3.1, R3: the body and its spare room stay as they are; answers share no memory with it or with each other.
func TestPutKeepsNothing(t *testing.T) {
	room := pattern(64, 9)
	before := slices.Clone(room)
	f := api.Frame{Kind: 3, Body: room[:10]}
	first, _ := frame.Put(f)
	second, _ := frame.Put(f)
	if !bytes.Equal(room, before) {
		t.Fatal("Put changed the body or its spare room")
	}
	spoilt(first)
	if !bytes.Equal(room, before) || !bytes.Equal(second, written(3, before[:10])) {
		t.Error("an answer shares memory")
	}
	spoilt(room)
	if !bytes.Equal(second, written(3, before[:10])) {
		t.Error("the answer is the body's memory")
	}
}

// P3.2, P3.3, example 1.
func TestFeedExample(t *testing.T) {
	b := written(5, []byte("ab"))
	r := frame.New()
	feed(t, r, b[:6], nil, api.OK, 6)
	feed(t, r, append(slices.Clone(b[6:]), 0), one(5, []byte("ab")), api.OK, 1)
}

// P3.2: a new reader has nothing left, and being fed nothing tells nothing.
func TestFeedNothing(t *testing.T) {
	r := frame.New()
	if r.Left() != 0 {
		t.Fatal("a new reader has bytes left")
	}
	feed(t, r, nil, nil, api.OK, 0)
	feed(t, r, []byte{}, nil, api.OK, 0)
	feed(t, r, []byte{0, 0}, nil, api.OK, 2)
	feed(t, r, nil, nil, api.OK, 2)
}

// P3.2, P3.4: each body at once, in pieces of one byte, and cut at the edges of its parts.
func TestFeedWholes(t *testing.T) {
	for _, body := range bodies() {
		b := written(9, body)
		feed(t, frame.New(), b, one(9, body), api.OK, 0)
		for _, at := range []int{1, 3, 4, 5, len(b) - 5, len(b) - 4, len(b) - 1} {
			r := frame.New()
			feed(t, r, b[:at], nil, api.OK, at)
			feed(t, r, b[at:], one(9, body), api.OK, 0)
		}
		r := frame.New()
		last := len(b) - 1
		for i := range last {
			feed(t, r, b[i:i+1], nil, api.OK, i+1)
		}
		feed(t, r, b[last:], one(9, body), api.OK, 0)
	}
}

// P3.2: several frames in one piece, in their order, and the beginning of the next one.
func TestFeedSeveral(t *testing.T) {
	a, b, c := written(1, []byte("first")), written(0, nil), written(255, pattern(300, 5))
	three := []api.Frame{{Kind: 1, Body: []byte("first")}, {Kind: 0}, {Kind: 255, Body: pattern(300, 5)}}
	feed(t, frame.New(), joined(a, b, c), three, api.OK, 0)
	for n := range len(a) {
		r := frame.New()
		feed(t, r, joined(a, b, c, a[:n]), three, api.OK, n)
		feed(t, r, joined(a[n:], b), three[:2], api.OK, 0)
	}
}

// P3.2, example 2: lengths that may not be break it with their fourth byte, not ahead of it.
func TestFeedWrongLengths(t *testing.T) {
	for _, length := range []uint32{0, 65537, 65538, 1 << 17, 1<<24 | 1, 1 << 31, 1<<31 | 5, 1<<32 - 1, 1<<32 - 4, 1<<32 - 8} {
		head := binary.BigEndian.AppendUint32(nil, length)
		feed(t, frame.New(), head, nil, api.ErrFrame, 0)
		feed(t, frame.New(), append(slices.Clone(head), pattern(100, 3)...), nil, api.ErrFrame, 0)
		r := frame.New()
		feed(t, r, head[:3], nil, api.OK, 3)
		feed(t, r, head[3:], nil, api.ErrFrame, 0)
		ahead := written(4, []byte("ahead"))
		feed(t, frame.New(), joined(ahead, head), one(4, []byte("ahead")), api.ErrFrame, 0)
	}
	for _, length := range []uint32{1, 2, 65535, 65536} {
		feed(t, frame.New(), binary.BigEndian.AppendUint32(nil, length), nil, api.OK, 4)
	}
}

// P3.2, example 2: any bit turned behind the length breaks it with the frame's last byte, not ahead of it.
func TestFeedWrongSums(t *testing.T) {
	good := written(5, []byte("ab"))
	for bit := 32; bit < 8*len(good); bit++ {
		b := slices.Clone(good)
		b[bit/8] ^= 1 << (bit % 8)
		last := len(b) - 1
		r := frame.New()
		feed(t, r, b[:last], nil, api.OK, last)
		feed(t, r, b[last:], nil, api.ErrFrame, 0)
		feed(t, frame.New(), b, nil, api.ErrFrame, 0)
	}
}

// P3.2: frames ahead of the fault in the same piece are told beside it, those behind it never.
func TestFeedBreaksBesideFrames(t *testing.T) {
	a, b := written(1, []byte("one")), written(2, nil)
	bad := written(3, []byte("three"))
	bad[len(bad)-1] ^= 1
	two := []api.Frame{{Kind: 1, Body: []byte("one")}, {Kind: 2}}
	feed(t, frame.New(), joined(a, b, bad, a), two, api.ErrFrame, 0)
	r := frame.New()
	feed(t, r, joined(a, b[:5]), two[:1], api.OK, 5)
	feed(t, r, joined(b[5:], bad[:6]), two[1:], api.OK, 6)
	feed(t, r, joined(bad[6:], a), nil, api.ErrFrame, 0)
}

// P3.2, P3.3: a broken reader stays so, whatever it is fed, and so does its copy.
func TestBrokenStays(t *testing.T) {
	good := written(1, []byte("good"))
	bad := written(1, []byte("bad"))
	bad[4] ^= 0x80
	for _, fault := range [][]byte{{0, 0, 0, 0}, {0, 1, 0, 1, 7, 7}, bad, joined(good, bad, good)} {
		r := frame.New()
		if _, e := r.Feed(fault); e != api.ErrFrame {
			t.Fatalf("Feed(% x): %d", fault, e)
		}
		twin := r.Copy()
		if twin == nil || twin == r {
			t.Fatal("Copy of a broken reader is no reader of its own")
		}
		for _, reader := range []*frame.Reader{r, twin, twin.Copy()} {
			for _, b := range [][]byte{nil, good, {0}, joined(good, good)} {
				feed(t, reader, b, nil, api.ErrFrame, 0)
			}
		}
	}
}

// P3.2, R3: what is fed stays as it is, its spare room too, and is not kept.
func TestFeedKeepsNothing(t *testing.T) {
	b := joined(written(1, []byte("first")), written(2, pattern(40, 6)))
	for at := range len(b) + 1 {
		room := joined(b, pattern(30, 7))
		before := slices.Clone(room)
		r := frame.New()
		got, _ := r.Feed(room[:at])
		if !bytes.Equal(room, before) {
			t.Fatal("Feed changed what it was fed")
		}
		spoilt(room)
		rest, e := r.Feed(b[at:])
		want := []api.Frame{{Kind: 1, Body: []byte("first")}, {Kind: 2, Body: pattern(40, 6)}}
		if all := append(got, rest...); e != api.OK || !same(all, want) {
			t.Fatalf("cut at %d: what was fed is kept as it was handed in", at)
		}
	}
}

// P3.2, R3: bodies share no memory with each other, nor with what is left.
func TestFramesShareNothing(t *testing.T) {
	x, y, z := pattern(20, 1), pattern(30, 2), pattern(40, 3)
	third := written(3, z)
	r := frame.New()
	got, _ := r.Feed(joined(written(1, x), written(2, y), third[:25]))
	twin := r.Copy()
	if len(got) != 2 {
		t.Fatal(len(got))
	}
	spoilt(got[0].Body)
	if !bytes.Equal(got[1].Body, y) {
		t.Error("two bodies share memory")
	}
	spoilt(got[1].Body)
	feed(t, r, third[25:], one(3, z), api.OK, 0)
	feed(t, twin, third[25:], one(3, z), api.OK, 0)
}

// P3.2, R3: the lists of frames that two Feeds answer share no memory either.
func TestListsShareNothing(t *testing.T) {
	r := frame.New()
	b := joined(written(1, []byte("a")), written(2, []byte("b")), written(3, []byte("c")))
	first, _ := r.Feed(b)
	first = first[:cap(first)]
	second, _ := r.Feed(b)
	clear(first)
	if !same(second, []api.Frame{{Kind: 1, Body: []byte("a")}, {Kind: 2, Body: []byte("b")}, {Kind: 3, Body: []byte("c")}}) {
		t.Error("two answers share a list")
	}
}

// P3.3: Left counts what is behind the last whole frame, and asking changes nothing.
func TestLeft(t *testing.T) {
	a := written(1, []byte("abc"))
	r := frame.New()
	feed(t, r, a[:10], nil, api.OK, 10)
	for range 3 {
		if r.Left() != 10 {
			t.Fatal("Left changes what is left")
		}
	}
	feed(t, r, joined(a[10:], a, a[:7]), []api.Frame{{Kind: 1, Body: []byte("abc")}, {Kind: 1, Body: []byte("abc")}}, api.OK, 7)
	feed(t, frame.New(), joined(written(0, pattern(65535, 8))[:65543]), nil, api.OK, 65543)
}

// P3.3, R3: a copy goes on as its reader would, and apart from it, whichever of both is fed first: fed by turns, neither gets into the other's bytes or their spare room.
func TestCopyApart(t *testing.T) {
	mine := append(pattern(15, 1), pattern(35, 2)...)
	yours := append(pattern(15, 1), pattern(35, 3)...)
	a, b := written(1, mine), written(1, yours)
	last := len(a) - 1
	for at := range 20 {
		r := frame.New()
		for i := range at {
			feed(t, r, a[i:i+1], nil, api.OK, i+1)
		}
		twin := r.Copy()
		if twin == nil || twin == r || twin.Left() != at {
			t.Fatal("Copy is not the same, apart")
		}
		for i := at; i < last; i++ {
			feed(t, r, a[i:i+1], nil, api.OK, i+1)
			feed(t, twin, b[i:i+1], nil, api.OK, i+1)
		}
		later := r.Copy()
		feed(t, r, a[last:], one(1, mine), api.OK, 0)
		feed(t, twin, b[last:], one(1, yours), api.OK, 0)
		feed(t, later, a[last:], one(1, mine), api.OK, 0)
	}
}

// P3.3: what breaks a copy leaves its reader whole, and the other way about.
func TestCopyBreaksApart(t *testing.T) {
	a := written(6, []byte("six"))
	bad := slices.Clone(a)
	bad[len(bad)-1] ^= 4
	r := frame.New()
	feed(t, r, a[:6], nil, api.OK, 6)
	twin, other := r.Copy(), r.Copy()
	feed(t, twin, bad[6:], nil, api.ErrFrame, 0)
	feed(t, other, a[6:], one(6, []byte("six")), api.OK, 0)
	if r.Left() != 6 {
		t.Fatal("a copy's end changed its reader")
	}
	feed(t, r, a[6:], one(6, []byte("six")), api.OK, 0)
}

// New answers readers apart from each other.
func TestNewApart(t *testing.T) {
	r, s := frame.New(), frame.New()
	feed(t, r, []byte{0, 0, 0, 0}, nil, api.ErrFrame, 0)
	feed(t, s, written(1, nil), one(1, nil), api.OK, 0)
}

// R5: readers that are none, told so however often they are asked.
func TestNone(t *testing.T) {
	var none *frame.Reader
	var unmade frame.Reader
	for _, r := range []*frame.Reader{none, &unmade, new(frame.Reader), {}} {
		for _, b := range [][]byte{nil, written(1, []byte("abc")), {0, 0}, {0, 0, 0, 0}, written(1, nil)} {
			feed(t, r, b, nil, api.ErrNil, 0)
			if r.Copy() != nil {
				t.Fatal("a copy of none")
			}
		}
	}
}

// outcome is all that a reader tells of b in the pieces that cuts has: at each set bit i one ends behind byte i.
func outcome(b []byte, cuts func(i int) bool) ([]api.Frame, bool, int) {
	r := frame.New()
	var all []api.Frame
	broken := false
	from := 0
	for i := range b {
		if i < len(b)-1 && !cuts(i) {
			continue
		}
		got, e := r.Feed(b[from : i+1])
		all = append(all, got...)
		broken = broken || e != api.OK
		from = i + 1
	}
	return all, broken, r.Left()
}

// P3.4: every way to cut some 13 bytes, whole ones and broken ones, tells the same.
func TestAllCuts(t *testing.T) {
	a := written(0x41, nil)
	flipped := slices.Clone(a)
	flipped[8] ^= 1
	for _, b := range [][]byte{
		joined(a, a[:4]),
		joined(a, []byte{0, 0, 0, 0}),
		joined(a, []byte{0, 1, 0, 1}),
		joined(flipped, a[:4]),
		joined([]byte{0, 0, 0, 0}, a),
		written(1, []byte("abcd")),
	} {
		want, broken, left := outcome(b, func(int) bool { return false })
		for mask := range 1 << (len(b) - 1) {
			got, bad, n := outcome(b, func(i int) bool { return mask>>i&1 == 1 })
			if !same(got, want) || bad != broken || n != left {
				t.Fatalf("% x cut by %b: %d frames, %v, %d left; want %d, %v, %d", b, mask, len(got), bad, n, len(want), broken, left)
			}
		}
	}
}

// P3.4: long streams, some with a byte turned, in pieces of many lengths, held against the chapter's rule read off the whole.
func TestStreams(t *testing.T) {
	for seed := range uint32(60) {
		var b []byte
		for i, n := range pattern(25, seed) {
			b = append(b, written(n, pattern(int(n)*int(seed%5), uint32(i)))...)
		}
		if seed%3 != 0 {
			turn := pattern(4, seed+100)
			b[int(binary.BigEndian.Uint32(turn)%uint32(len(b)))] ^= 1 << (seed % 8)
		}
		b = b[:len(b)-int(seed%7)]
		want, broken, left := told(b)
		for _, step := range []int{1, 2, 3, 5, 64, 1000, len(b)} {
			got, bad, n := outcome(b, func(i int) bool { return (i+1)%step == 0 })
			if !same(got, want) || bad != broken || n != left {
				t.Fatalf("seed %d in pieces of %d: %d frames, %v, %d left; want %d, %v, %d", seed, step, len(got), bad, n, len(want), broken, left)
			}
		}
	}
}

// told reads all of b by the library: its frames, whether it breaks, what is left.
func told(b []byte) ([]api.Frame, bool, int) {
	var all []api.Frame
	for len(b) >= 4 {
		length := binary.BigEndian.Uint32(b)
		if length == 0 || length > 65536 {
			return all, true, 0
		}
		if uint32(len(b)) < length+8 {
			break
		}
		if crc32.ChecksumIEEE(b[4:4+length]) != binary.BigEndian.Uint32(b[4+length:]) {
			return all, true, 0
		}
		all = append(all, api.Frame{Kind: b[4], Body: b[5 : 4+length]})
		b = b[8+length:]
	}
	return all, false, len(b)
}

// P3.4: what Put tells is one frame, that one, and nothing is left.
func TestPutIsOneFrame(t *testing.T) {
	for i, body := range bodies() {
		f := api.Frame{Kind: uint8(37 * i), Body: body}
		b, e := frame.Put(f)
		if e != api.OK {
			t.Fatal(e)
		}
		feed(t, frame.New(), b, []api.Frame{f}, api.OK, 0)
	}
}
