package message_test

import (
	"bytes"
	"reflect"
	"slices"
	"strings"
	"testing"

	"muster/api"
	"muster/message"
)

// P5.1 to P5.4, the chapter's examples, and some more that are written out.
func TestExamples(t *testing.T) {
	for _, c := range []struct {
		m api.Message
		b []byte
	}{
		{api.Message{Kind: api.MsgRegister, Node: 3}, []byte{1, 5, 1, 4, 1, 0, 0, 0, 0, 0, 0, 0, 3}},
		{api.Message{Kind: api.MsgRegister}, []byte{1, 5, 0}},
		{api.Message{Kind: api.MsgAsk}, []byte{1, 1, 1, 11, 2, 0, 1, 0}},
		{api.Message{Kind: api.MsgReply}, []byte{1, 2, 1, 12, 2, 0, 1, 0}},
		{api.Message{Kind: api.MsgReply, Answer: api.Answer{Err: 2}}, []byte{1, 2, 1, 12, 2, 0, 11, 1, 1, 1, 0, 0, 0, 0, 0, 0, 0, 2}},
		{api.Message{Kind: api.MsgRecord}, []byte{1, 13, 1, 14, 2, 0, 1, 0}},
		{api.Message{Kind: api.MsgTaken}, []byte{1, 14, 1, 14, 2, 0, 1, 0}},
		{api.Message{Kind: api.MsgQueue}, []byte{1, 4, 0}},
		{api.Message{Kind: api.MsgQueue, Jobs: make([]api.Job, 2)}, []byte{1, 4, 1, 13, 4, 0, 2, 0, 1, 0, 0, 1, 0}},
		{api.Message{Kind: api.MsgPast, Runs: make([]api.Run, 1)}, []byte{1, 16, 1, 15, 4, 0, 1, 0, 1, 0}},
		{api.Message{Kind: api.MsgDone, N: -1}, []byte{1, 11, 1, 7, 1, 255, 255, 255, 255, 255, 255, 255, 255}},
		{api.Message{Kind: api.MsgList, Request: 258, Name: "ann"}, []byte{1, 3, 2, 2, 1, 0, 0, 0, 0, 0, 0, 1, 2, 10, 2, 0, 3, 'a', 'n', 'n'}},
	} {
		if b, e := message.Encode(c.m); e != api.OK || !bytes.Equal(b, c.b) {
			t.Errorf("Encode(%v) = % x, %d", c.m, b, e)
		}
		if m, e := message.Decode(c.b); e != api.OK || !alike(m, c.m) {
			t.Errorf("Decode(% x) = %v, %d", c.b, m, e)
		}
	}
	tick := []byte{1, 1, 1, 0, 0, 0, 0, 0, 0, 0, 9}
	if b, e := message.EventBytes(api.Event{Kind: api.EvTick}); e != api.OK || !bytes.Equal(b, tick) {
		t.Errorf("the bytes of a tick: % x, %d", b, e)
	}
	for _, m := range []api.Message{{Kind: api.MsgRegister, Epoch: 1}, {Kind: api.MsgRegister, Node: -1}, {}, {Kind: 17}, {Kind: api.MsgTaken, Past: api.Past{At: 1}}} {
		wrong(t, m)
	}
	for _, b := range [][]byte{{2, 5, 0}, {1, 5}, {1, 5, 0, 0}, nil, {}} {
		refused(t, b)
	}
}

// wrong asks that m is not right, and has no bytes (P5.1, P5.2, R2).
func wrong(t *testing.T, m api.Message) {
	t.Helper()
	if message.Right(m) {
		t.Error("right, but must not be")
	}
	if b, e := message.Encode(m); e != api.ErrArg || b != nil {
		t.Errorf("Encode of what is not right: %d bytes, %d", len(b), e)
	}
}

// refused asks that b are no message's bytes (P5.3, R2).
func refused(t *testing.T, b []byte) {
	t.Helper()
	if m, e := message.Decode(b); e != api.ErrMessage || !reflect.DeepEqual(m, api.Message{}) {
		t.Errorf("Decode of %d bytes, % x ..: %v, %d", len(b), b[:min(len(b), 40)], m.Kind, e)
	}
}

// noEvent asks that b are no event's bytes (P5.4, R2).
func noEvent(t *testing.T, b []byte) {
	t.Helper()
	if e, err := message.EventOf(b); err != api.ErrMessage || !reflect.DeepEqual(e, api.Event{}) {
		t.Errorf("EventOf of %d bytes, % x ..: %v, %d", len(b), b[:min(len(b), 40)], e.Kind, err)
	}
}

// P5.1.
func TestRight(t *testing.T) {
	for i, m := range rights() {
		if !message.Right(m) {
			t.Errorf("message %d, of kind %d: not right", i, m.Kind)
		}
	}
}

// P5.1: each kind, and none of the 240 others, whatever else is there.
func TestKinds(t *testing.T) {
	for k := range 256 {
		m := api.Message{Kind: api.MsgKind(k)}
		if got := message.Right(m); got != (k >= 1 && k <= 16) {
			t.Errorf("kind %d: %v", k, got)
		}
		if k >= 1 && k <= 16 {
			continue
		}
		wrong(t, m)
		refused(t, bytesOf(m))
		m.Node = 3
		wrong(t, m)
		refused(t, bytesOf(m))
	}
}

// P5.1: each value that a message can hold, in each kind: right just where the kind has it. A list of one element that holds nothing is not none.
func TestWhatAKindHas(t *testing.T) {
	for k := range had {
		for _, path := range paths(api.Message{}) {
			if path == "Kind" {
				continue
			}
			for _, start := range []api.Message{{Kind: k}, full(k)} {
				if has(k, path) && start.Client+start.Node+start.Past.Id > 0 {
					continue
				}
				do(&start, path, one)
				if got := message.Right(start); got != has(k, path) {
					t.Errorf("kind %d with %s: %v", k, path, got)
				}
				if !has(k, path) {
					wrong(t, start)
				}
			}
		}
	}
}

// one makes v the least that is not 0, empty or none.
func one(v reflect.Value) {
	switch v.Kind() {
	case reflect.Slice:
		v.Set(reflect.MakeSlice(v.Type(), 1, 1))
	case reflect.String:
		v.SetString("\x00")
	case reflect.Uint8, reflect.Uint32:
		v.SetUint(1)
	default:
		v.SetInt(1)
	}
}

// P5.1: of Taken the past has Id and What alone.
func TestTakenHasIdAndWhat(t *testing.T) {
	right := api.Message{Kind: api.MsgTaken, Past: api.Past{Id: 4, What: api.WasOver}}
	if !message.Right(right) {
		t.Error("not right")
	}
	for _, p := range []api.Past{{At: -1}, {Account: "a"}, {User: "u"}, {Nodes: 1}, {Cores: 1}, {State: 1}, full(api.MsgRecord).Past} {
		p.Id, p.What = 4, api.WasOver
		wrong(t, api.Message{Kind: api.MsgTaken, Past: p})
		refused(t, bytesOf(api.Message{Kind: api.MsgTaken, Past: p}))
	}
}

// P5.1: numbers below 0 where a kind has them; those of parts, and N, may be.
func TestBelowZero(t *testing.T) {
	const counts = " Client Request Acked Node Epoch Job Cores Left "
	for k := range had {
		for _, path := range paths(full(k)) {
			for _, n := range []int64{-1, -1 << 63} {
				m := full(k)
				number := false
				do(&m, path, func(v reflect.Value) {
					if number = v.CanInt(); number {
						v.SetInt(n)
					}
				})
				if !number || !has(k, path) {
					continue
				}
				if !strings.Contains(counts, " "+path+" ") {
					if !message.Right(m) {
						t.Errorf("kind %d with %s %d: not right", k, path, n)
					}
					continue
				}
				wrong(t, m)
				refused(t, bytesOf(m))
			}
		}
	}
}

// P5.1: each text of each kind, of 65535 bytes and of one more; with the first such a text alone is too long for a body.
func TestLongTexts(t *testing.T) {
	long := strings.Repeat("a", api.MaxText+1)
	for k := range had {
		seen := 0
		for _, path := range paths(full(k)) {
			m := full(k)
			isText := false
			do(&m, path, func(v reflect.Value) {
				if isText = v.Kind() == reflect.String; isText {
					v.SetString(long[1:])
				}
			})
			if !isText || !has(k, path) {
				continue
			}
			seen++
			if b, e := message.Encode(m); !message.Right(m) || e != api.ErrLong || b != nil {
				t.Errorf("kind %d with %s of 65535: %v, %d bytes, %d", k, path, message.Right(m), len(b), e)
			}
			do(&m, path, func(v reflect.Value) { v.SetString(long) })
			wrong(t, m)
		}
		// An event has 2 texts, 4 in its Spec, 1 and 2 more in its Resv; full has two jobs and two runs.
		want := map[api.MsgKind]int{api.MsgAsk: 9, api.MsgList: 1, api.MsgHistory: 1, api.MsgQueue: 8, api.MsgRecord: 2, api.MsgPast: 4}
		if seen != want[k] {
			t.Errorf("kind %d: %d texts", k, seen)
		}
	}
}

// mostOf is how long a list may be.
func mostOf(path string) int {
	for _, end := range []string{"Deps", "Overs", "Starts"} {
		if strings.HasSuffix(path, end) {
			return 128
		}
	}
	return 256
}

// P5.1: each list of each kind, as long as may be and one longer.
func TestLongLists(t *testing.T) {
	lists := 0
	for k := range had {
		for _, path := range paths(full(k)) {
			m := full(k)
			isList := false
			resize := func(n int) {
				do(&m, path, func(v reflect.Value) {
					if isList = v.Kind() == reflect.Slice; isList {
						v.Set(reflect.MakeSlice(v.Type(), n, n))
					}
				})
			}
			resize(mostOf(path))
			if !isList || !has(k, path) {
				continue
			}
			lists++
			if b, e := message.Encode(m); !message.Right(m) || e != api.OK || !bytes.Equal(b, bytesOf(m)) {
				t.Errorf("kind %d with %s of %d: %v, %d", k, path, mostOf(path), message.Right(m), e)
			}
			resize(mostOf(path) + 1)
			wrong(t, m)
			refused(t, bytesOf(m))
			resize(2 * mostOf(path))
			wrong(t, m)
			resize(1<<16 + 1) // the bytes for the length can't say more than 65535
			wrong(t, m)
			refused(t, bytesOf(m))
		}
	}
	// Deps and Accounts of an event; Ids, Overs and Starts; Jobs and the Deps of two; Runs.
	if lists != 9 {
		t.Errorf("%d lists", lists)
	}
}

// P5.1, P5.2, R6: a list without elements is as none, whether the kind has it or not.
func TestEmptyListsAreNone(t *testing.T) {
	for k := range had {
		bare := api.Message{Kind: k}
		m := bare
		m.Event.Spec.Deps, m.Event.Resv.Accounts = []api.Dep{}, []string{}
		m.Answer.Ids, m.Answer.Overs, m.Answer.Starts = []int{}, []api.Over{}, []api.Start{}
		m.Jobs, m.Runs = []api.Job{}, make([]api.Run, 0, 5)
		if !message.Right(m) || !message.Same(m, bare) || !message.Same(bare, m) {
			t.Errorf("kind %d: empty lists are not as none", k)
		}
		if b, e := message.Encode(m); e != api.OK || !bytes.Equal(b, bytesOf(bare)) {
			t.Errorf("kind %d: % x, %d", k, b, e)
		}
	}
	m := api.Message{Kind: api.MsgQueue, Jobs: []api.Job{{Spec: api.Spec{Deps: []api.Dep{}}}}}
	none := api.Message{Kind: api.MsgQueue, Jobs: []api.Job{{}}}
	if b, e := message.Encode(m); e != api.OK || !bytes.Equal(b, bytesOf(none)) || !message.Same(m, none) {
		t.Errorf("a job with empty Deps: % x, %d", b, e)
	}
	if message.Same(none, api.Message{Kind: api.MsgQueue}) {
		t.Error("a job that holds nothing is as none")
	}
}

// P5.1: messages are the same as themselves, and unlike in each single value, list and kind, right or not.
func TestSame(t *testing.T) {
	for _, made := range []func() api.Message{everything, func() api.Message { return api.Message{} }, func() api.Message { return full(api.MsgAsk) }, func() api.Message { return full(api.MsgQueue) }} {
		if !message.Same(made(), made()) {
			t.Error("not the same as itself")
		}
		for _, path := range paths(made()) {
			for _, change := range []func(reflect.Value){another, shorter, longer} {
				m := made()
				do(&m, path, change)
				want := alike(m, made())
				if message.Same(m, made()) != want || message.Same(made(), m) != want {
					t.Errorf("changed at %s: same is not %v", path, want)
				}
			}
		}
	}
	all := rights()
	for i, m := range all {
		if !message.Same(m, m) {
			t.Errorf("message %d: not the same as itself", i)
		}
		other := all[(i*7+3)%len(all)]
		if message.Same(m, other) != alike(m, other) {
			t.Errorf("messages %d and %d: same is not %v", i, (i*7+3)%len(all), alike(m, other))
		}
	}
}

// P5.1: values that stand in unlike places, or are past a smaller type's end, are not taken for one another.
func TestSameTellsPlacesApart(t *testing.T) {
	ms := []api.Message{
		{Jobs: []api.Job{{Id: 1}}}, {Runs: []api.Run{{Id: 1}}}, {Jobs: []api.Job{{}}}, {Runs: []api.Run{{}}}, {Past: api.Past{Id: 1}},
		{Jobs: []api.Job{{}, {}}}, {Runs: []api.Run{{}, {}}}, {Jobs: []api.Job{{}}, Runs: []api.Run{{}}}, {Jobs: []api.Job{{Id: 1}}, Runs: []api.Run{{Id: 1}}},
		{Event: api.Event{Id: 1}}, {Event: api.Event{Id: 257}}, {Event: api.Event{Id: 1<<32 + 1}}, {Event: api.Event{Kind: 1}}, {Client: 1}, {N: 1}, {Left: 1},
		{Event: api.Event{Spec: api.Spec{Deps: []api.Dep{{Kind: 1, Id: 2}}}}}, {Event: api.Event{Spec: api.Spec{Deps: []api.Dep{{Kind: 2, Id: 1}}}}},
		{Event: api.Event{Resv: api.Resv{Accounts: []string{"a", "b"}}}}, {Event: api.Event{Resv: api.Resv{Accounts: []string{"ab"}}}}, {Event: api.Event{Resv: api.Resv{Accounts: []string{"ab", ""}}}},
		{Event: api.Event{Name: "a"}}, {Event: api.Event{Text: "a"}}, {Event: api.Event{Resv: api.Resv{Name: "a"}}}, {Name: "a"},
		{Answer: api.Answer{Ids: []int{1, 2}}}, {Answer: api.Answer{Overs: []api.Over{{Id: 1, State: 2}}}}, {Answer: api.Answer{Starts: []api.Start{{Id: 1, On: 2}}}},
	}
	for i, a := range ms {
		for j, b := range ms {
			if message.Same(a, b) != (i == j) {
				t.Errorf("messages %d and %d: same is %v", i, j, i != j)
			}
		}
	}
}

// another makes v other than it is; a list stays as long.
func another(v reflect.Value) {
	switch v.Kind() {
	case reflect.Slice:
		if v.Len() > 1 {
			last := reflect.ValueOf(v.Index(1).Interface())
			v.Index(1).Set(v.Index(0))
			v.Index(0).Set(last)
		}
	case reflect.String:
		v.SetString(strings.ToUpper(v.String()) + strings.Repeat("z", 1-min(1, v.Len())))
	case reflect.Uint8, reflect.Uint32:
		v.SetUint(v.Uint() ^ 1)
	default:
		v.SetInt(v.Int() ^ -1<<63)
	}
}

// shorter takes the last of v off, or makes it 0.
func shorter(v reflect.Value) {
	switch v.Kind() {
	case reflect.Slice:
		v.Set(v.Slice(0, max(0, v.Len()-1)))
	case reflect.String:
		v.SetString(v.String()[:max(0, v.Len()-1)])
	default:
		v.SetZero()
	}
}

// longer puts one that holds nothing behind v, or makes it one more.
func longer(v reflect.Value) {
	switch v.Kind() {
	case reflect.Slice:
		v.Set(reflect.Append(v, reflect.Zero(v.Type().Elem())))
	case reflect.String:
		v.SetString(v.String() + "\x00")
	case reflect.Uint8, reflect.Uint32:
		v.SetUint(v.Uint() + 1)
	default:
		v.SetInt(v.Int() + 1)
	}
}

// P5.2, P5.3, P5.5: all right messages have the chapter's bytes, and are told of these.
func TestEncodeAndDecode(t *testing.T) {
	for i, m := range rights() {
		b, e := message.Encode(m)
		if e != api.OK || !bytes.Equal(b, bytesOf(m)) {
			t.Fatalf("message %d, of kind %d: Encode = %d bytes, %d; want %d", i, m.Kind, len(b), e, len(bytesOf(m)))
		}
		back, e := message.Decode(spare(b))
		if e != api.OK || !alike(back, m) || !message.Same(back, m) {
			t.Fatalf("message %d, of kind %d: Decode = %v, %d", i, m.Kind, back, e)
		}
	}
}

// P5.4, P5.5: events have the chapter's bytes, and are told of these.
func TestEventBytesAndEventOf(t *testing.T) {
	for i, m := range append(rights(), api.Message{Event: api.Event{Text: strings.Repeat("\xc3", 64995)}}) {
		b, e := message.EventBytes(m.Event)
		if e != api.OK || !bytes.Equal(b, eventBytes(m.Event)) {
			t.Fatalf("event %d: EventBytes = %d bytes, %d", i, len(b), e)
		}
		back, e := message.EventOf(spare(b))
		if e != api.OK || !alike(back, m.Event) {
			t.Fatalf("event %d: EventOf = %v, %d", i, back, e)
		}
	}
}

// P5.5: unlike messages have unlike bytes.
func TestUnlikeMessagesUnlikeBytes(t *testing.T) {
	all := rights()
	seen := map[string]int{}
	for i, m := range all {
		b, _ := message.Encode(m)
		if j, ok := seen[string(b)]; ok && !alike(m, all[j]) {
			t.Errorf("messages %d and %d have the same bytes", j, i)
		}
		seen[string(b)] = i
	}
}

// P5.2: the fields of a message, or of one of its parts, of 65000 bytes and of one more. A part of 65000 leaves no room for the message's own field around it.
func TestBodyLimit(t *testing.T) {
	fill := strings.Repeat("\xc3", api.MaxText)
	for name, filled := range map[string]func(n int) api.Message{
		"name":    func(n int) api.Message { return api.Message{Kind: api.MsgList, Name: fill[:n]} },
		"history": func(n int) api.Message { return api.Message{Kind: api.MsgHistory, Client: 1, Name: fill[:n]} },
		"event": func(n int) api.Message {
			return api.Message{Kind: api.MsgAsk, Event: api.Event{Text: fill[:n]}}
		},
		"spec": func(n int) api.Message {
			return api.Message{Kind: api.MsgAsk, Request: 3, Event: api.Event{Kind: 1, Spec: api.Spec{User: "u", Part: fill[:n], Deps: make([]api.Dep, 128)}}}
		},
		"accounts": func(n int) api.Message {
			return api.Message{Kind: api.MsgAsk, Event: api.Event{Resv: api.Resv{Accounts: []string{"", fill[:n], "a"}}}}
		},
		"past": func(n int) api.Message {
			return api.Message{Kind: api.MsgRecord, Past: api.Past{Id: 1, Account: fill[:n]}}
		},
		"job": func(n int) api.Message {
			return api.Message{Kind: api.MsgQueue, Jobs: []api.Job{{Id: 1, Spec: api.Spec{Qos: fill[:n]}}}}
		},
		"jobs": func(n int) api.Message {
			return api.Message{Kind: api.MsgQueue, N: -1, Jobs: append(make([]api.Job, 255), api.Job{Spec: api.Spec{User: fill[:n]}})}
		},
		"runs": func(n int) api.Message {
			return api.Message{Kind: api.MsgPast, Runs: append(make([]api.Run, 20), api.Run{User: fill[:n], Account: "a"})}
		},
	} {
		n := 1000
		n += api.MaxBody - (len(bytesOf(filled(n))) - 2)
		m := filled(n)
		b, e := message.Encode(m)
		if e != api.OK || len(b) != 2+api.MaxBody || !bytes.Equal(b, bytesOf(m)) {
			t.Errorf("%s of 65000: %d bytes, %d", name, len(b), e)
		}
		if back, e := message.Decode(bytesOf(m)); e != api.OK || !alike(back, m) {
			t.Errorf("%s of 65000: Decode: %d", name, e)
		}
		for _, more := range []int{1, 5, 100, api.MaxText - n} {
			m = filled(n + more)
			if b, e := message.Encode(m); !message.Right(m) || e != api.ErrLong || b != nil {
				t.Errorf("%s of %d: %v, %d bytes, %d", name, api.MaxBody+more, message.Right(m), len(b), e)
			}
		}
		refused(t, bytesOf(filled(n+1)))
	}
}

// P5.2: parts of 65000 and 65001 bytes, of more than a text may have, and in lists of which no part is too long.
func TestLongParts(t *testing.T) {
	most := strings.Repeat("a", api.MaxText)
	of := func(n int) []api.Message {
		return []api.Message{
			{Kind: api.MsgAsk, Event: api.Event{Text: most[:n]}},
			{Kind: api.MsgQueue, Jobs: []api.Job{{}, {Spec: api.Spec{User: most[:n]}}, {}}},
			{Kind: api.MsgRecord, Past: api.Past{User: most[:n]}},
			{Kind: api.MsgPast, Runs: []api.Run{{}, {User: most[:n]}, {}}},
		}
	}
	ms := slices.Concat(of(64995), of(64996), of(api.MaxText))
	spec := api.Spec{User: most, Account: most, Qos: most, Part: most}
	ms = append(ms,
		api.Message{Kind: api.MsgAsk, Event: api.Event{Name: most, Text: most, Spec: spec, Resv: api.Resv{Name: most, Accounts: slices.Repeat([]string{most}, 256)}}},
		api.Message{Kind: api.MsgQueue, Jobs: slices.Repeat([]api.Job{{Spec: spec}}, 256)},
		api.Message{Kind: api.MsgRecord, Past: api.Past{Account: most, User: most}},
		api.Message{Kind: api.MsgPast, Runs: slices.Repeat([]api.Run{{Account: most, User: most}}, 256)},
		api.Message{Kind: api.MsgQueue, Jobs: slices.Repeat([]api.Job{{Spec: api.Spec{User: most[:60000]}}}, 256)},
		api.Message{Kind: api.MsgPast, Runs: slices.Repeat([]api.Run{{User: most[:60000]}}, 2)},
		api.Message{Kind: api.MsgQueue, Jobs: slices.Repeat([]api.Job{{Spec: api.Spec{User: most[:300]}}}, 256)})
	for i, m := range ms {
		if b, e := message.Encode(m); !message.Right(m) || e != api.ErrLong || b != nil {
			t.Errorf("message %d: %v, %d bytes, %d", i, message.Right(m), len(b), e)
		}
	}
}

// P5.2: what is not right and too long, too, is not right.
func TestWrongAheadOfLong(t *testing.T) {
	most := strings.Repeat("a", api.MaxText)
	for _, m := range []api.Message{
		{Kind: api.MsgList, Name: most, Client: -1},
		{Kind: api.MsgList, Name: most, Node: 1},
		{Kind: api.MsgAsk, Event: api.Event{Name: most, Text: most}, Acked: -1},
		{Kind: api.MsgAsk, Event: api.Event{Name: most, Spec: api.Spec{Deps: make([]api.Dep, 129)}}},
		{Kind: api.MsgQueue, Jobs: append(slices.Repeat([]api.Job{{Spec: api.Spec{User: most}}}, 255), api.Job{Spec: api.Spec{User: most + "a"}})},
		{Kind: api.MsgPast, Runs: slices.Repeat([]api.Run{{User: most}}, 257)},
		{Kind: 17, Name: most},
	} {
		wrong(t, m)
	}
}

// P5.4: each text, list and length of an event; the error that is named first.
func TestEventLimits(t *testing.T) {
	long := strings.Repeat("\xc3", api.MaxText+1)
	for name, put := range map[string]func(e *api.Event, s string){
		"Name":         func(e *api.Event, s string) { e.Name = s },
		"Text":         func(e *api.Event, s string) { e.Text = s },
		"Spec.User":    func(e *api.Event, s string) { e.Spec.User = s },
		"Spec.Account": func(e *api.Event, s string) { e.Spec.Account = s },
		"Spec.Qos":     func(e *api.Event, s string) { e.Spec.Qos = s },
		"Spec.Part":    func(e *api.Event, s string) { e.Spec.Part = s },
		"Resv.Name":    func(e *api.Event, s string) { e.Resv.Name = s },
		"Accounts":     func(e *api.Event, s string) { e.Resv.Accounts = []string{s} },
	} {
		room := api.MaxBody - 5
		if name == "Accounts" {
			room -= 2
		}
		for n, want := range map[int]api.Errno{room: api.OK, room + 1: api.ErrLong, api.MaxText: api.ErrLong, api.MaxText + 1: api.ErrArg} {
			var e api.Event
			put(&e, long[:n])
			b, err := message.EventBytes(e)
			if err != want || (len(b) == api.MaxBody) != (want == api.OK) || want != api.OK && b != nil {
				t.Errorf("%s of %d: %d bytes, %d", name, n, len(b), err)
			}
			if n <= room {
				if back, err := message.EventOf(b); err != api.OK || !alike(back, e) {
					t.Errorf("%s of %d: EventOf: %d", name, n, err)
				}
			} else if n < api.MaxText {
				noEvent(t, eventBytes(e))
			}
		}
	}
	deps, accounts := make([]api.Dep, 129), make([]string, 257)
	for i, c := range []struct {
		e    api.Event
		want api.Errno
	}{
		{api.Event{Spec: api.Spec{Deps: deps[:128]}, Resv: api.Resv{Accounts: accounts[:256]}}, api.OK},
		{api.Event{Spec: api.Spec{Deps: deps}}, api.ErrArg},
		{api.Event{Resv: api.Resv{Accounts: accounts}}, api.ErrArg},
		{api.Event{Text: long[:api.MaxText], Spec: api.Spec{Deps: deps}}, api.ErrArg},
		{api.Event{Text: long[:api.MaxText], Resv: api.Resv{Accounts: accounts}}, api.ErrArg},
		{api.Event{Name: long[:api.MaxText], Text: long}, api.ErrArg},
		{api.Event{Name: long[:40000], Text: long[:40000]}, api.ErrLong},
	} {
		b, err := message.EventBytes(c.e)
		if err != c.want || (b != nil) != (c.want == api.OK) {
			t.Errorf("event %d: %d bytes, %d", i, len(b), err)
		}
		if c.want != api.ErrLong && err == api.ErrArg {
			noEvent(t, eventBytes(c.e))
		}
	}
}
