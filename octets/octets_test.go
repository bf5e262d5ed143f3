package octets_test

import (
	"bytes"
	"encoding/binary"
	"math"
	"slices"
	"strings"
	"testing"

	"muster/api"
	"muster/octets"
)

// width is one of the four number widths, its calls brought to one form.
type width struct {
	name string
	size int
	read func(b []byte, at int) (uint64, bool)
	add  func(b []byte, v uint64) []byte
}

func widths() []width {
	return []width{
		{"8", 1,
			func(b []byte, at int) (uint64, bool) { v, ok := octets.U8(b, at); return uint64(v), ok },
			func(b []byte, v uint64) []byte { return octets.Add8(b, uint8(v)) }},
		{"16", 2,
			func(b []byte, at int) (uint64, bool) { v, ok := octets.U16(b, at); return uint64(v), ok },
			func(b []byte, v uint64) []byte { return octets.Add16(b, uint16(v)) }},
		{"32", 4,
			func(b []byte, at int) (uint64, bool) { v, ok := octets.U32(b, at); return uint64(v), ok },
			func(b []byte, v uint64) []byte { return octets.Add32(b, uint32(v)) }},
		{"64", 8, octets.U64, octets.Add64},
	}
}

// lastBytes: the size low bytes of v, by the library's own count, to hold ours against.
func lastBytes(v uint64, size int) []byte {
	return binary.BigEndian.AppendUint64(nil, v)[8-size:]
}

// values: the ends of each width's range, single bits, and bytes that are all unlike.
func values() []uint64 {
	vs := []uint64{0, 0x0102030405060708, 0xf1e2d3c4b5a69788, math.MaxUint64, math.MaxInt64, 1 << 63}
	for i := range 64 {
		vs = append(vs, 1<<i, 1<<i-1)
	}
	return vs
}

// wrongPlaces: no number or text of at least size bytes stands there, in length bytes.
func wrongPlaces(length, size int) []int {
	ats := []int{math.MinInt, math.MinInt + 1, -length, -size, -1, length, length + 1, length + size,
		math.MaxInt - size, math.MaxInt - 1, math.MaxInt}
	for k := range size {
		ats = append(ats, length-k)
	}
	return ats
}

// P1.1, the chapter's first example.
func TestReadExamples(t *testing.T) {
	if v, ok := octets.U16([]byte{1, 2}, 0); v != 258 || !ok {
		t.Error("U16", v, ok)
	}
	if v, ok := octets.U32([]byte{0x80, 0, 0, 1}, 0); v != 2147483649 || !ok {
		t.Error("U32", v, ok)
	}
	if v, ok := octets.U8([]byte{5}, 0); v != 5 || !ok {
		t.Error("U8", v, ok)
	}
	if v, ok := octets.U64([]byte{1, 2, 3, 4, 5, 6, 7}, 0); v != 0 || ok {
		t.Error("U64 of seven bytes", v, ok)
	}
	for _, at := range []int{1, -1} {
		if v, ok := octets.U16([]byte{1, 2}, at); v != 0 || ok {
			t.Error("U16 at", at, v, ok)
		}
	}
}

// P1.1: every value at every place, first and last included.
func TestReadNumbers(t *testing.T) {
	for _, w := range widths() {
		for _, v := range values() {
			want := v & (math.MaxUint64 >> (64 - 8*w.size))
			for ahead := range 4 {
				for behind := range 4 {
					b := bytes.Repeat([]byte{0xa5}, ahead)
					b = append(b, lastBytes(v, w.size)...)
					b = append(b, bytes.Repeat([]byte{0x5a}, behind)...)
					if got, ok := w.read(b, ahead); got != want || !ok {
						t.Fatalf("U%s(% x, %d) = %d, %v, not %d", w.name, b, ahead, got, ok, want)
					}
				}
			}
		}
	}
}

// P1.1: nothing is read where not all bytes are bytes of b; b's spare room holds none of them.
func TestReadOutside(t *testing.T) {
	for _, w := range widths() {
		for length := range 20 {
			room := bytes.Repeat([]byte{0xff}, length+16)
			for _, at := range wrongPlaces(length, w.size) {
				if got, ok := w.read(room[:length], at); got != 0 || ok {
					t.Errorf("U%s of %d bytes at %d = %d, %v", w.name, length, at, got, ok)
				}
			}
		}
		for _, b := range [][]byte{nil, {}} {
			if got, ok := w.read(b, 0); got != 0 || ok {
				t.Errorf("U%s of no bytes = %d, %v", w.name, got, ok)
			}
		}
	}
}

// P1.2, the chapter's second example, and the ends of each width.
func TestAddExamples(t *testing.T) {
	for _, c := range []struct {
		got, want []byte
	}{
		{octets.Add32([]byte{9}, 258), []byte{9, 0, 0, 1, 2}},
		{octets.Add8(nil, 255), []byte{255}},
		{octets.Add16(nil, 0xfffe), []byte{255, 254}},
		{octets.Add32(nil, 0x80000001), []byte{0x80, 0, 0, 1}},
		{octets.Add64([]byte{}, 0x8000000000000001), []byte{0x80, 0, 0, 0, 0, 0, 0, 1}},
		{octets.Add64([]byte{7}, 1), []byte{7, 0, 0, 0, 0, 0, 0, 0, 1}},
	} {
		if !bytes.Equal(c.got, c.want) {
			t.Errorf("% x, not % x", c.got, c.want)
		}
	}
}

// P1.2 and P1.4: the bytes stand behind b, which is as it was, and are read there.
func TestAddNumbers(t *testing.T) {
	for _, w := range widths() {
		for _, v := range values() {
			for _, b := range [][]byte{nil, {}, {0}, {0xff, 0}, []byte("what stood ahead")} {
				want := slices.Concat(b, lastBytes(v, w.size))
				got := w.add(b, v)
				if !bytes.Equal(got, want) {
					t.Fatalf("Add%s(% x, %d) = % x, not % x", w.name, b, v, got, want)
				}
				read, ok := w.read(got, len(b))
				if read != v&(math.MaxUint64>>(64-8*w.size)) || !ok {
					t.Fatalf("U%s(% x, %d) = %d, %v behind Add%s of %d", w.name, got, len(b), read, ok, w.name, v)
				}
			}
		}
	}
}

// P1.3, the chapter's second example.
func TestTextExamples(t *testing.T) {
	b, e := octets.AddText(nil, "\x05\x06")
	if e != api.OK || !bytes.Equal(b, []byte{0, 2, 5, 6}) {
		t.Fatal(b, e)
	}
	if s, end, ok := octets.Text(b, 0); s != "\x05\x06" || end != 4 || !ok {
		t.Errorf("at 0: %q, %d, %v", s, end, ok)
	}
	if s, end, ok := octets.Text(b, 1); s != "" || end != 0 || ok {
		t.Errorf("at 1: %q, %d, %v", s, end, ok)
	}
}

// P1.3: lengths from none to the longest one, behind nothing and behind something.
func TestAddTextLengths(t *testing.T) {
	for _, n := range []int{0, 1, 2, 255, 256, 257, 511, 512, 32767, 32768, 65279, 65280, 65534, 65535} {
		s := strings.Repeat("\x80", n)
		for _, ahead := range []string{"", "x", "ahead"} {
			want := []byte(ahead + string([]byte{byte(n >> 8), byte(n)}) + s)
			b, e := octets.AddText([]byte(ahead), s)
			if e != api.OK || !bytes.Equal(b, want) {
				t.Fatalf("AddText of %d bytes behind %q: %d bytes, %v", n, ahead, len(b), e)
			}
			got, end, ok := octets.Text(b, len(ahead))
			if got != s || end != len(b) || !ok {
				t.Fatalf("Text of %d bytes behind %q: %d bytes, %d, %v", n, ahead, len(got), end, ok)
			}
		}
	}
}

// P1.3 and R2: what is too long is refused, and nothing is beside the error.
func TestAddTextTooLong(t *testing.T) {
	for _, n := range []int{65536, 65537, 131072, 1 << 20} {
		for _, b := range [][]byte{nil, {}, {1, 2, 3}} {
			got, e := octets.AddText(b, strings.Repeat("a", n))
			if e != api.ErrLong || len(got) != 0 {
				t.Errorf("AddText of %d bytes: %d bytes, %v", n, len(got), e)
			}
		}
	}
}

// P1.3: no text without both bytes of its length and all bytes of its own; the spare room holds none of them.
func TestTextCutOff(t *testing.T) {
	for _, n := range []int{0, 1, 3, 256, 65535} {
		whole, e := octets.AddText([]byte{0xee}, strings.Repeat("t", n))
		if e != api.OK {
			t.Fatal(n, e)
		}
		for _, length := range []int{0, 1, 2, 3, len(whole) / 2, len(whole) - 2, len(whole) - 1} {
			if length >= len(whole) {
				continue
			}
			if s, end, ok := octets.Text(whole[:length], 1); s != "" || end != 0 || ok {
				t.Errorf("a text of %d bytes, %d of all %d there: %d bytes, %d, %v", n, length, len(whole), len(s), end, ok)
			}
		}
		if s, end, ok := octets.Text(whole, 1); len(s) != n || end != len(whole) || !ok {
			t.Errorf("a text of %d bytes: %d bytes, %d, %v", n, len(s), end, ok)
		}
	}
}

// P1.3: places that are none, the least and the greatest int among them.
func TestTextOutside(t *testing.T) {
	for length := range 8 {
		room := make([]byte, length+16) // every place that is one says an empty text
		for _, at := range wrongPlaces(length, 2) {
			if s, end, ok := octets.Text(room[:length], at); s != "" || end != 0 || ok {
				t.Errorf("Text of %d bytes at %d = %q, %d, %v", length, at, s, end, ok)
			}
		}
		for at := 0; at+2 <= length; at++ {
			if s, end, ok := octets.Text(room[:length], at); s != "" || end != at+2 || !ok {
				t.Errorf("Text of %d bytes at %d = %q, %d, %v", length, at, s, end, ok)
			}
		}
	}
	for _, b := range [][]byte{nil, {}} {
		if s, end, ok := octets.Text(b, 0); s != "" || end != 0 || ok {
			t.Errorf("Text of no bytes = %q, %d, %v", s, end, ok)
		}
	}
}

// P1.3: all short runs of some bytes, at all places, against the promise's words.
func TestTextOfAnyBytes(t *testing.T) {
	var b []byte
	var check func(left int)
	check = func(left int) {
		for at := -2; at <= len(b)+2; at++ {
			wantText, wantEnd, wantOk := "", 0, false
			if at >= 0 && at+2 <= len(b) {
				if end := at + 2 + 256*int(b[at]) + int(b[at+1]); end <= len(b) {
					wantText, wantEnd, wantOk = string(b[at+2:end]), end, true
				}
			}
			if s, end, ok := octets.Text(b, at); s != wantText || end != wantEnd || ok != wantOk {
				t.Fatalf("Text(% x, %d) = %q, %d, %v", b, at, s, end, ok)
			}
		}
		if left == 0 {
			return
		}
		for _, x := range []byte{0, 1, 2, 3, 255} {
			b = append(b, x)
			check(left - 1)
			b = b[:len(b)-1]
		}
	}
	check(5)
}

// texts: any bytes may be one: of each value alone, no UTF-8, noughts, what looks like a length.
func texts() []string {
	ts := []string{"", "\x00", "\x00\x00", "\x00\x02ab", "\xff\xff", "\xc3\x28", "\xed\xa0\x80", "muster",
		"m\u00fcster \u4e16", strings.Repeat("z", 300), strings.Repeat("\x00", api.MaxText)}
	for x := range 256 {
		ts = append(ts, string([]byte{byte(x)}))
	}
	return ts
}

// P1.4: texts and numbers put one behind the other are read one behind the other.
func TestChain(t *testing.T) {
	b := []byte{0xab, 0xcd}
	ts := texts()
	for i, s := range ts {
		before := bytes.Clone(b)
		next, e := octets.AddText(b, s)
		if e != api.OK || len(next) != len(b)+2+len(s) || !bytes.Equal(next[:len(b)], before) {
			t.Fatal(i, len(next), e)
		}
		b = next
		if i%50 == 0 {
			b = octets.Add64(octets.Add32(octets.Add16(octets.Add8(b, uint8(i)), uint16(i)), uint32(i)), uint64(i))
		}
	}
	at := 2
	for i, s := range ts {
		got, end, ok := octets.Text(b, at)
		if got != s || end != at+2+len(s) || !ok {
			t.Fatalf("text %d at %d: %d bytes, %d, %v", i, at, len(got), end, ok)
		}
		at = end
		if i%50 != 0 {
			continue
		}
		for _, w := range widths() {
			want := uint64(i) & (math.MaxUint64 >> (64 - 8*w.size))
			if v, ok := w.read(b, at); v != want || !ok {
				t.Fatalf("number behind text %d: %d, %v", i, v, ok)
			}
			at += w.size
		}
	}
	if at != len(b) {
		t.Fatalf("%d of %d bytes read", at, len(b))
	}
}

// adders: every call that answers bytes.
func adders() map[string]func(b []byte) []byte {
	fs := map[string]func(b []byte) []byte{
		"AddText": func(b []byte) []byte { out, _ := octets.AddText(b, "text"); return out },
		"AddText of none": func(b []byte) []byte {
			out, _ := octets.AddText(b, "")
			return out
		},
		"AddText too long": func(b []byte) []byte {
			out, _ := octets.AddText(b, strings.Repeat("l", 65536))
			return out
		},
	}
	for _, w := range widths() {
		fs["Add"+w.name] = func(b []byte) []byte { return w.add(b, 0x1122334455667788) }
	}
	return fs
}

// scribble writes all over b, its spare room too.
func scribble(b []byte, x byte) {
	b = b[:cap(b)]
	for i := range b {
		b[i] = x
	}
}

// R3: what is handed in is as it was, its spare room too.
func TestArgumentsStay(t *testing.T) {
	for name, f := range adders() {
		for length := range 6 {
			for spare := range 14 {
				room := bytes.Repeat([]byte{0x77}, length+spare)
				f(room[:length])
				if !bytes.Equal(room, bytes.Repeat([]byte{0x77}, length+spare)) {
					t.Errorf("%s of %d bytes, %d spare, left % x", name, length, spare, room)
				}
			}
		}
	}
	for _, w := range widths() {
		room := []byte("0123456789abcdef")
		w.read(room[:12], 2)
		if string(room) != "0123456789abcdef" {
			t.Errorf("U%s left %q", w.name, room)
		}
	}
	room := []byte("\x00\x03abcdef")
	octets.Text(room[:6], 0)
	if string(room) != "\x00\x03abcdef" {
		t.Errorf("Text left %q", room)
	}
}

// R3: an answer shares no memory with what was handed in, nor with another answer.
func TestAnswersAreNew(t *testing.T) {
	for name, f := range adders() {
		for _, length := range []int{0, 1, 2, 5, 40} {
			room := bytes.Repeat([]byte{0x77}, length+64)
			b := room[:length]
			one, two := f(b), f(b)
			want := bytes.Clone(two)
			if !bytes.Equal(one, want) {
				t.Errorf("%s answered % x, then % x", name, one, want)
			}
			scribble(room, 0x11)
			if !bytes.Equal(one, want) || !bytes.Equal(two, want) {
				t.Errorf("%s of %d bytes kept what was handed in", name, length)
			}
			three := f(one)
			wantThree := bytes.Clone(three)
			scribble(one, 0x22)
			if !bytes.Equal(two, want) || !bytes.Equal(three, wantThree) {
				t.Errorf("%s of %d bytes: two answers share memory", name, length)
			}
			if !bytes.Equal(room, bytes.Repeat([]byte{0x11}, length+64)) {
				t.Errorf("%s of %d bytes answered what was handed in", name, length)
			}
		}
	}
}

// R3: the spare room of two answers is not shared either.
func TestSpareRoomIsNew(t *testing.T) {
	for name, f := range adders() {
		b := make([]byte, 3, 64)
		one, two := f(b), f(b)
		scribble(one, 0x22)
		before := bytes.Clone(two[:cap(two)])
		scribble(one, 0x33)
		if !bytes.Equal(two[:cap(two)], before) {
			t.Errorf("%s: two answers share spare room", name)
		}
	}
}

// R3: a text that was read stays what it was when its bytes change.
func TestTextIsNew(t *testing.T) {
	b := []byte("\x00\x05hello")
	s, _, ok := octets.Text(b, 0)
	scribble(b, 'x')
	if s != "hello" || !ok {
		t.Errorf("%q, %v", s, ok)
	}
}

// R4: the same arguments have the same answers, whatever was asked between.
func TestAnswersHangOnArguments(t *testing.T) {
	b := []byte{0, 1, 'q', 0, 0}
	for range 3 {
		if s, end, ok := octets.Text(b, 0); s != "q" || end != 3 || !ok {
			t.Fatalf("%q, %d, %v", s, end, ok)
		}
		if s, end, ok := octets.Text(b, 3); s != "" || end != 5 || !ok {
			t.Fatalf("%q, %d, %v", s, end, ok)
		}
		octets.AddText(b, strings.Repeat("l", 65536))
		if out := octets.Add8(b[:1], 4); !bytes.Equal(out, []byte{0, 4}) {
			t.Fatalf("% x", out)
		}
	}
}
