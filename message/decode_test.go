package message_test

import (
	"bytes"
	"slices"
	"testing"

	"muster/api"
	"muster/message"
)

// decode_test.go: bytes that are no message's, or no event's (P5.3, P5.4), and P5.5 of all that are taken.

// P5.3: any other first byte, and fewer than two.
func TestFirstByte(t *testing.T) {
	for v := range 256 {
		refused(t, []byte{byte(v)})
		if v == 1 {
			continue
		}
		for k := range had {
			b := bytesOf(full(k))
			b[0] = byte(v)
			refused(t, b)
			refused(t, []byte{byte(v), byte(k), 0})
		}
	}
}

// P5.3, P5.4: cut anywhere, and going on behind.
func TestCutAndLonger(t *testing.T) {
	for i, m := range rights() {
		b, e := bytesOf(m), eventBytes(m.Event)
		// Of long ones some cuts, and those near the end.
		for n := 0; n < len(b); n += 1 + len(b)/50 {
			refused(t, b[:n])
		}
		for n := max(0, len(b)-12); n < len(b); n++ {
			refused(t, b[:n])
		}
		for n := 0; n < len(e); n += 1 + len(e)/50 {
			noEvent(t, e[:n])
		}
		for _, more := range [][]byte{{0}, {1}, {255}, num(200, 1), b} {
			refused(t, slices.Concat(b, more))
			noEvent(t, slices.Concat(e, more))
		}
		if t.Failed() {
			t.Fatalf("message %d", i)
		}
	}
	noEvent(t, nil)
	noEvent(t, []byte{})
	for k := range had {
		b := bytesOf(full(k))
		for n := range b {
			refused(t, b[:n])
		}
	}
}

// anything is a field of each kind under a tag, none of which holds nothing.
func anything(tag uint8) [][]byte {
	return [][]byte{num(tag, 1), num(tag, -1), txt(tag, "\x00"), txt(tag, "a"), nums(tag, 0), nums(tag, 1, 2), txts(tag, ""), txts(tag, "\x00")}
}

// tagged tells which tags a kind has.
func tagged(k api.MsgKind) map[uint8]bool {
	out := map[uint8]bool{}
	for _, f := range fieldsOf(full(k)) {
		out[f[0]] = true
	}
	return out
}

// P5.3: a field under any tag that the kind has not.
func TestTagsThatAKindHasNot(t *testing.T) {
	for k := range had {
		own := tagged(k)
		for tag := range 256 {
			if own[uint8(tag)] {
				continue
			}
			for _, f := range anything(uint8(tag)) {
				refused(t, whole(k, with(fieldsOf(full(k)), f)...))
				refused(t, whole(k, with(fieldsOf(api.Message{Kind: k}), f)...))
			}
		}
		// Under these tags stand right parts of others.
		for _, of := range []api.Message{full(api.MsgAsk), full(api.MsgReply), full(api.MsgQueue), full(api.MsgRecord), full(api.MsgPast)} {
			f := fieldsOf(of)[len(fieldsOf(of))-1]
			if !own[f[0]] {
				refused(t, whole(k, with(fieldsOf(full(k)), f)...))
			}
		}
	}
}

// kindAt is which kind the field under a tag has.
func kindAt(fields [][]byte, tag uint8) byte {
	for _, f := range fields {
		if f[0] == tag {
			return f[1]
		}
	}
	return 0
}

// P5.3: a field of another kind under a tag of a message.
func TestKindsOfFields(t *testing.T) {
	for k := range had {
		l := fieldsOf(full(k))
		for tag := range tagged(k) {
			for _, f := range anything(tag) {
				if f[1] != kindAt(l, tag) {
					refused(t, whole(k, with(l, f)...))
				}
			}
		}
	}
}

// part is one sort of part: its fields, and its place in a message's bytes.
type part struct {
	name   string
	fields [][]byte
	in     func(b []byte) []byte
}

// parts is each sort of part, that holds all it can, as an only part and as one of several.
func parts() []part {
	ask, reply, queue, record, past := full(api.MsgAsk), full(api.MsgReply), full(api.MsgQueue), full(api.MsgRecord), full(api.MsgPast)
	text := func(m api.Message, tag uint8) func(b []byte) []byte {
		return func(b []byte) []byte { return whole(m.Kind, with(fieldsOf(m), txt(tag, string(b)))...) }
	}
	several := func(m api.Message, tag uint8, ahead, behind []string) func(b []byte) []byte {
		return func(b []byte) []byte {
			return whole(m.Kind, with(fieldsOf(m), txts(tag, slices.Concat(ahead, []string{string(b)}, behind)...))...)
		}
	}
	job, run := string(body(fieldsBy(queue.Jobs[0], ofJob)...)), string(body(fieldsBy(past.Runs[0], ofRun)...))
	return []part{
		{"event", fieldsBy(ask.Event, ofEvent), text(ask, 11)},
		{"answer", fieldsBy(reply.Answer, ofAnswer), text(reply, 12)},
		{"past", fieldsBy(record.Past, ofPast), text(record, 14)},
		{"job", fieldsBy(queue.Jobs[1], ofJob), several(queue, 13, nil, nil)},
		{"first job", fieldsBy(queue.Jobs[1], ofJob), several(queue, 13, nil, []string{job, "\x00"})},
		{"last job", fieldsBy(queue.Jobs[1], ofJob), several(queue, 13, []string{job, "\x00"}, nil)},
		{"run", fieldsBy(past.Runs[1], ofRun), several(past, 15, nil, nil)},
		{"first run", fieldsBy(past.Runs[1], ofRun), several(past, 15, nil, []string{run, "\x00"})},
		{"last run", fieldsBy(past.Runs[1], ofRun), several(past, 15, []string{run, "\x00"}, nil)},
	}
}

// taken asks that b are a message's bytes, and that this has them.
func taken(t *testing.T, name string, b []byte) {
	t.Helper()
	m, e := message.Decode(b)
	if e != api.OK || !bytes.Equal(bytesOf(m), b) {
		t.Errorf("%s: Decode: %d", name, e)
	}
}

// P5.3: a part that is there but empty, cut, going on, with fields that are none of its own, or of another kind.
func TestWrongParts(t *testing.T) {
	for _, p := range parts() {
		right := body(p.fields...)
		taken(t, p.name, p.in(right))
		taken(t, p.name+" that holds nothing", p.in([]byte{0}))
		for n := range right {
			refused(t, p.in(right[:n]))
		}
		refused(t, p.in(append(slices.Clone(right), 0)))
		refused(t, p.in([]byte{0, 0}))
		for tag := range 256 {
			is := kindAt(p.fields, uint8(tag))
			for _, f := range anything(uint8(tag)) {
				if f[1] != is {
					refused(t, p.in(body(with(p.fields, f)...)))
				}
			}
			if is != 0 {
				taken(t, p.name, p.in(body(without(p.fields, uint8(tag))...)))
				// What is 0, empty or none must be left out.
				for _, f := range [][]byte{num(uint8(tag), 0), txt(uint8(tag), ""), nums(uint8(tag)), txts(uint8(tag))} {
					refused(t, p.in(body(with(p.fields, f)...)))
				}
			}
		}
		turned := slices.Clone(p.fields)
		slices.Reverse(turned)
		refused(t, p.in(body(turned...)))
		refused(t, p.in(body(append(p.fields[:1:1], p.fields...)...)))
	}
}

// P5.3: a kind that has a part has it in its bytes, even if that holds nothing; an empty text is no part, and an empty list is none.
func TestMissingAndEmptyParts(t *testing.T) {
	for k, tag := range map[api.MsgKind]uint8{api.MsgAsk: 11, api.MsgReply: 12, api.MsgRecord: 14, api.MsgTaken: 14} {
		taken(t, "a part that holds nothing", whole(k, txt(tag, "\x00")))
		refused(t, whole(k))
		refused(t, whole(k, without(fieldsOf(full(k)), tag)...))
		refused(t, whole(k, txt(tag, "")))
		refused(t, whole(k, txts(tag, "\x00")))
	}
	for k, tag := range map[api.MsgKind]uint8{api.MsgQueue: 13, api.MsgPast: 15} {
		taken(t, "no parts", whole(k))
		taken(t, "parts that hold nothing", whole(k, txts(tag, "\x00", "\x00")))
		refused(t, whole(k, txts(tag)))
		refused(t, whole(k, txts(tag, "")))
		refused(t, whole(k, txts(tag, "\x00", "")))
		refused(t, whole(k, txts(tag, "", "\x00")))
		refused(t, whole(k, txt(tag, "\x00")))
		taken(t, "256 parts", whole(k, txts(tag, slices.Repeat([]string{"\x00"}, 256)...)))
		refused(t, whole(k, txts(tag, slices.Repeat([]string{"\x00"}, 257)...)))
	}
}

// P5.3, P5.4: numbers of smaller types at their ends and past them, alone and in pairs.
func TestNumbersThatATypeCannotHold(t *testing.T) {
	small := []int64{256, 257, -1, -255, -256, 1 << 16, 1 << 32, 1<<32 + 1, 1<<63 - 1, -1 << 63}
	wide := []int64{1 << 32, 1<<32 + 1, -1, 1 << 33, 1<<63 - 1, -1 << 63, -1 << 32}
	for _, p := range parts() {
		last := map[uint8]int64{}
		for _, tag := range map[string][]uint8{"event": {1}, "past": {2, 8}, "job": {14}, "first job": {14}, "last job": {14}, "run": {6}, "first run": {6}, "last run": {6}}[p.name] {
			last[tag] = 255
		}
		for _, tag := range map[string][]uint8{"event": {15}, "job": {18}, "first job": {18}, "last job": {18}}[p.name] {
			last[tag] = 1<<32 - 1
		}
		for tag, most := range last {
			taken(t, p.name, p.in(body(with(p.fields, num(tag, 1))...)))
			taken(t, p.name, p.in(body(with(p.fields, num(tag, most))...)))
			for _, n := range map[int64][]int64{255: small, 1<<32 - 1: wide}[most] {
				refused(t, p.in(body(with(p.fields, num(tag, n))...)))
				if p.name == "event" {
					noEvent(t, body(with(p.fields, num(tag, n))...))
				}
			}
		}
		for _, pair := range []struct {
			name string
			tag  uint8
			of   func(n int64) []int64
			most int64
		}{
			{"event", 13, func(n int64) []int64 { return []int64{n, 5} }, 255},
			{"job", 13, func(n int64) []int64 { return []int64{n, 5} }, 255},
			{"answer", 3, func(n int64) []int64 { return []int64{5, n} }, 255},
			{"answer", 4, func(n int64) []int64 { return []int64{5, n} }, 1<<32 - 1},
		} {
			if pair.name != p.name {
				continue
			}
			in := func(ns ...int64) []byte { return p.in(body(with(p.fields, nums(pair.tag, ns...))...)) }
			taken(t, p.name, in(pair.of(0)...))
			taken(t, p.name, in(pair.of(pair.most)...))
			taken(t, p.name, in(slices.Concat(pair.of(1), pair.of(2))...))
			for _, n := range map[int64][]int64{255: small, 1<<32 - 1: wide}[pair.most] {
				refused(t, in(pair.of(n)...))
				refused(t, in(slices.Concat(pair.of(1), pair.of(n))...))
			}
			// A number that is alone is no pair.
			refused(t, in(1))
			refused(t, in(0))
			refused(t, in(1, 2, 3))
			refused(t, in(make([]int64, 255)...))
			taken(t, p.name, in(make([]int64, 256)...))
			refused(t, in(make([]int64, 257)...))
			refused(t, in(make([]int64, 258)...))
		}
	}
}

// P5.4: bytes of no event.
func TestEventOfRefuses(t *testing.T) {
	fields := fieldsBy(full(api.MsgAsk).Event, ofEvent)
	right := body(fields...)
	if e, err := message.EventOf(right); err != api.OK || !alike(e, full(api.MsgAsk).Event) {
		t.Fatal(err)
	}
	for n := range right {
		noEvent(t, right[:n])
	}
	for tag := range 256 {
		is := kindAt(fields, uint8(tag))
		for _, f := range anything(uint8(tag)) {
			if f[1] != is {
				noEvent(t, body(with(fields, f)...))
				noEvent(t, body(f))
			}
		}
		noEvent(t, body(num(uint8(tag), 0)))
		noEvent(t, body(txt(uint8(tag), "")))
	}
	noEvent(t, body(nums(13, 1)))
	noEvent(t, body(nums(13, 1, 2, 3)))
	noEvent(t, body(nums(13, 256, 1)))
	noEvent(t, []byte{255})
	noEvent(t, bytes.Repeat([]byte{255}, api.MaxBody))
	noEvent(t, make([]byte, api.MaxBody))
	noEvent(t, make([]byte, 1<<20))
}

// P5.3, P5.4, P5.5: whatever bytes are taken are told again; whatever is taken is right. Each byte of messages that hold all is changed in some ways, and each of short ones in all.
func TestEncodeOfDecode(t *testing.T) {
	seen := 0
	check := func(b []byte) {
		m, e := message.Decode(b)
		if e != api.OK {
			refused(t, b)
			return
		}
		seen++
		again, e := message.Encode(m)
		if !message.Right(m) || e != api.OK || !bytes.Equal(again, b) || !bytes.Equal(bytesOf(m), b) {
			t.Fatalf("Encode of Decode(% x) = % x, %d", b, again, e)
		}
	}
	for k := range had {
		for _, start := range [][]byte{bytesOf(full(k)), bytesOf(api.Message{Kind: k})} {
			for i := range start {
				b := slices.Clone(start)
				values := []byte{0, 1, 2, 4, 255, start[i] ^ 1, start[i] ^ 0x80, start[i] + 1, start[i] - 1}
				if len(start) < 50 {
					values = upTo(255)
				}
				for _, v := range values {
					b[i] = v
					check(b)
				}
			}
		}
	}
	for n := range 6 {
		b := slices.Concat([]byte{1, 5}, make([]byte, n))
		for k := range had {
			b[1] = byte(k)
			clear(b[2:])
			for more := true; more; more = next(b[2:], 4) {
				check(b)
			}
		}
	}
	if seen < 5000 {
		t.Errorf("only %d messages were taken", seen)
	}
}

func upTo(most byte) []byte {
	var out []byte
	for v := range int(most) + 1 {
		out = append(out, byte(v))
	}
	return out
}

// next makes b the next list of bytes from 0 to most, and says false behind the last.
func next(b []byte, most byte) bool {
	for i := len(b) - 1; i >= 0; i-- {
		if b[i] < most {
			b[i]++
			return true
		}
		b[i] = 0
	}
	return false
}

// R1: bytes of which each count says more than there is, and long ones.
func TestBytesThatSayMuch(t *testing.T) {
	for k := range had {
		for _, v := range []byte{0, 1, 2, 3, 4, 11, 13, 64, 255} {
			for _, n := range []int{1, 8, 300, api.MaxBody, api.MaxBody + 1, 1 << 20} {
				if n == 1 && v == 0 {
					continue // that is a body without fields, which some kinds have
				}
				refused(t, slices.Concat([]byte{1, byte(k)}, bytes.Repeat([]byte{v}, n)))
			}
		}
	}
}
