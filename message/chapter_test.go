package message_test

import (
	"bytes"
	"encoding/binary"
	"reflect"
	"slices"
	"strconv"
	"strings"

	"muster/api"
)

// chapter_test.go: the chapter's tables, messages put into bytes by them alone, and messages to try.

// What stands under which tag, in the chapter's words; its pairs are told by their types.
const (
	ofEvent   = "1 Kind, 2 Id, 3 N, 4 Name, 5 Text, 6 Spec.User, 7 Spec.Account, 8 Spec.Qos, 9 Spec.Part, 10 Spec.Nodes, 11 Spec.Cores, 12 Spec.Limit, 13 Spec.Deps, 14 Resv.Name, 15 Resv.Nodes, 16 Resv.From, 17 Resv.To, 18 Resv.Accounts"
	ofAnswer  = "1 Err, 2 Ids, 3 Overs, 4 Starts"
	ofJob     = "1 Id, 2 Of, 3 Index, 6 Spec.User, 7 Spec.Account, 8 Spec.Qos, 9 Spec.Part, 10 Spec.Nodes, 11 Spec.Cores, 12 Spec.Limit, 13 Spec.Deps, 14 State, 15 Submit, 16 Start, 17 End, 18 On, 19 Exit"
	ofPast    = "1 Id, 2 What, 3 At, 4 Account, 5 User, 6 Nodes, 7 Cores, 8 State"
	ofRun     = "1 Id, 2 Account, 3 User, 4 Nodes, 5 Cores, 6 State, 7 Submit, 8 Start, 9 End"
	ofMessage = "1 Client, 2 Request, 3 Acked, 4 Node, 5 Epoch, 6 Job, 7 N, 8 Cores, 9 Left, 10 Name"
)

// had is what each kind has, in the chapter's words.
var had = map[api.MsgKind]string{
	api.MsgAsk:      "Client Request Acked Event",
	api.MsgReply:    "Client Request Answer",
	api.MsgList:     "Client Request Name",
	api.MsgQueue:    "Client Request N Jobs",
	api.MsgRegister: "Node",
	api.MsgWelcome:  "Node Epoch",
	api.MsgLaunch:   "Node Epoch Job Cores Left",
	api.MsgBegun:    "Node Epoch Job",
	api.MsgKill:     "Node Epoch Job",
	api.MsgGone:     "Node Epoch Job",
	api.MsgDone:     "Node Epoch Job N",
	api.MsgSeen:     "Node Epoch Job",
	api.MsgRecord:   "Past",
	api.MsgTaken:    "Past.Id Past.What",
	api.MsgHistory:  "Client Request Name",
	api.MsgPast:     "Client Request Runs",
}

// has tells whether a kind has the value at that path: it, or what it is a part of.
func has(k api.MsgKind, path string) bool {
	for _, p := range strings.Fields(had[k]) {
		if path == p || strings.HasPrefix(path, p+".") {
			return true
		}
	}
	return false
}

// The bytes of one field.

func num(tag uint8, n int64) []byte {
	return binary.BigEndian.AppendUint64([]byte{tag, 1}, uint64(n))
}

func txt(tag uint8, s string) []byte {
	return append(binary.BigEndian.AppendUint16([]byte{tag, 2}, uint16(len(s))), s...)
}

func nums(tag uint8, ns ...int64) []byte {
	b := binary.BigEndian.AppendUint16([]byte{tag, 3}, uint16(len(ns)))
	for _, n := range ns {
		b = binary.BigEndian.AppendUint64(b, uint64(n))
	}
	return b
}

func txts(tag uint8, ss ...string) []byte {
	b := binary.BigEndian.AppendUint16([]byte{tag, 4}, uint16(len(ss)))
	for _, s := range ss {
		b = append(binary.BigEndian.AppendUint16(b, uint16(len(s))), s...)
	}
	return b
}

// body is the bytes of fields.
func body(fields ...[]byte) []byte {
	return slices.Concat([]byte{byte(len(fields))}, slices.Concat(fields...))
}

// whole is the bytes of a message of that kind with those fields.
func whole(k api.MsgKind, fields ...[]byte) []byte {
	return slices.Concat([]byte{1, byte(k)}, body(fields...))
}

// with is fields with f among them, by its tag: in the place of one with that tag, or new.
func with(fields [][]byte, f []byte) [][]byte {
	out := append(without(fields, f[0]), f)
	slices.SortFunc(out, func(a, b []byte) int { return int(a[0]) - int(b[0]) })
	return out
}

func without(fields [][]byte, tag uint8) [][]byte {
	return slices.DeleteFunc(slices.Clone(fields), func(f []byte) bool { return f[0] == tag })
}

// at is the value of a struct at a path.
func at(v reflect.Value, path string) reflect.Value {
	for _, name := range strings.Split(path, ".") {
		v = v.FieldByName(name)
	}
	return v
}

// integer is a number of any type.
func integer(v reflect.Value) int64 {
	if v.CanUint() {
		return int64(v.Uint())
	}
	return v.Int()
}

// fieldsBy is the bytes of the fields of a part, one by one, by its row of the table.
func fieldsBy(part any, row string) [][]byte {
	var out [][]byte
	for _, entry := range strings.Split(row, ", ") {
		said, path, _ := strings.Cut(entry, " ")
		tag, _ := strconv.Atoi(said)
		v := at(reflect.ValueOf(part), path)
		if v.IsZero() || v.Kind() == reflect.Slice && v.Len() == 0 {
			continue
		}
		switch x := v.Interface().(type) {
		case string:
			out = append(out, txt(uint8(tag), x))
		case []string:
			out = append(out, txts(uint8(tag), x...))
		default:
			if v.Kind() == reflect.Slice {
				out = append(out, nums(uint8(tag), flat(v)...))
			} else {
				out = append(out, num(uint8(tag), integer(v)))
			}
		}
	}
	return out
}

// flat is the numbers of a list, pairs one behind the other.
func flat(list reflect.Value) []int64 {
	var ns []int64
	for i := range list.Len() {
		v := list.Index(i)
		if v.Kind() != reflect.Struct {
			ns = append(ns, integer(v))
			continue
		}
		for j := range v.NumField() {
			ns = append(ns, integer(v.Field(j)))
		}
	}
	return ns
}

// eventBytes is an event's bytes by the chapter.
func eventBytes(e api.Event) []byte {
	return body(fieldsBy(e, ofEvent)...)
}

// fieldsOf is the bytes of a message's fields by the chapter, one by one, right or not.
func fieldsOf(m api.Message) [][]byte {
	l := fieldsBy(m, ofMessage)
	several := func(tag uint8, n int, one func(i int) [][]byte) {
		var ss []string
		for i := range n {
			ss = append(ss, string(body(one(i)...)))
		}
		if n > 0 {
			l = append(l, txts(tag, ss...))
		}
	}
	switch m.Kind {
	case api.MsgAsk:
		l = append(l, txt(11, string(eventBytes(m.Event))))
	case api.MsgReply:
		l = append(l, txt(12, string(body(fieldsBy(m.Answer, ofAnswer)...))))
	case api.MsgQueue:
		several(13, len(m.Jobs), func(i int) [][]byte { return fieldsBy(m.Jobs[i], ofJob) })
	case api.MsgRecord, api.MsgTaken:
		l = append(l, txt(14, string(body(fieldsBy(m.Past, ofPast)...))))
	case api.MsgPast:
		several(15, len(m.Runs), func(i int) [][]byte { return fieldsBy(m.Runs[i], ofRun) })
	}
	return l
}

// bytesOf is a message's bytes by the chapter.
func bytesOf(m api.Message) []byte {
	return whole(m.Kind, fieldsOf(m)...)
}

// each calls f with each value within v and where it stands: numbers, texts, lists, and what is in lists.
func each(v reflect.Value, path string, f func(path string, v reflect.Value)) {
	switch v.Kind() {
	case reflect.Struct:
		for i := range v.NumField() {
			each(v.Field(i), strings.TrimPrefix(path+"."+v.Type().Field(i).Name, "."), f)
		}
	case reflect.Slice:
		f(path, v)
		for i := range v.Len() {
			each(v.Index(i), path+"."+strconv.Itoa(i), f)
		}
	default:
		f(path, v)
	}
}

// paths is where the values of m stand.
func paths(m api.Message) []string {
	var out []string
	each(reflect.ValueOf(m), "", func(path string, _ reflect.Value) { out = append(out, path) })
	return out
}

// do calls f with the value of m at path.
func do(m *api.Message, path string, f func(v reflect.Value)) {
	each(reflect.ValueOf(m).Elem(), "", func(p string, v reflect.Value) {
		if p == path {
			f(v)
		}
	})
}

// alike tells whether all values of a and b are the same; a list without elements is as none.
func alike(a, b any) bool {
	values := func(x any) map[string]any {
		out := map[string]any{}
		each(reflect.ValueOf(x), "", func(path string, v reflect.Value) {
			if v.Kind() == reflect.Slice {
				out[path] = v.Len()
			} else {
				out[path] = v.Interface()
			}
		})
		return out
	}
	return reflect.DeepEqual(values(a), values(b))
}

// source tells numbers that look like no run, the same ones from each seed.
func source(seed uint64) func(n int) int {
	return func(n int) int {
		seed = seed*6364136223846793005 + 1442695040888963407
		return int((seed >> 33) % uint64(n))
	}
}

// fill gives all of v values that are not 0, empty or none: small ones, of which no two are the same; lists have two elements.
func fill(v reflect.Value, next *int) {
	*next++
	switch v.Kind() {
	case reflect.Struct:
		for i := range v.NumField() {
			fill(v.Field(i), next)
		}
	case reflect.Slice:
		v.Set(reflect.MakeSlice(v.Type(), 2, 2))
		fill(v.Index(0), next)
		fill(v.Index(1), next)
	case reflect.String:
		v.SetString("t" + strconv.Itoa(*next))
	case reflect.Uint8, reflect.Uint32:
		v.SetUint(uint64(*next))
	default:
		v.SetInt(int64(*next))
	}
}

// everything is a message that holds all that a message can; it is not right.
func everything() api.Message {
	var m api.Message
	next := 0
	fill(reflect.ValueOf(&m).Elem(), &next)
	return m
}

// full is a right message of that kind that holds all that the kind has.
func full(k api.MsgKind) api.Message {
	m := api.Message{Kind: k}
	next := 0
	for _, path := range strings.Fields(had[k]) {
		fill(at(reflect.ValueOf(&m).Elem(), path), &next)
	}
	return m
}

// chance gives v any values, the ends of its types among them; lists have up to three elements.
func chance(v reflect.Value, from func(n int) int) {
	ends := []int64{0, 0, 1, 2, 255, 256, 1<<31 - 1, 1 << 31, 1<<32 - 1, 1 << 32, 1<<63 - 1, -1, -256, -1 << 63}
	switch v.Kind() {
	case reflect.Struct:
		for i := range v.NumField() {
			chance(v.Field(i), from)
		}
	case reflect.Slice:
		v.Set(reflect.MakeSlice(v.Type(), from(4), 4))
		for i := range v.Len() {
			chance(v.Index(i), from)
		}
	case reflect.String:
		b := make([]byte, max(0, from(20)-5))
		for i := range b {
			b[i] = byte(from(256))
		}
		v.SetString(string(b))
	case reflect.Uint8, reflect.Uint32:
		v.SetUint(uint64(ends[from(len(ends))]) & (1<<v.Type().Bits() - 1))
	default:
		v.SetInt(ends[from(len(ends))])
	}
}

// anyOf is a right message of that kind that holds any values.
func anyOf(k api.MsgKind, from func(n int) int) api.Message {
	m := api.Message{Kind: k}
	for _, path := range strings.Fields(had[k]) {
		v := at(reflect.ValueOf(&m).Elem(), path)
		chance(v, from)
		if v.CanInt() && path != "N" && path != "Past.Id" {
			v.SetInt(v.Int() & (1<<63 - 1))
		}
	}
	return m
}

// rights is right messages whose fields, and those of whose parts, are few enough: of each kind one that holds all, one that holds nothing, some of any sort, and the edges.
func rights() []api.Message {
	var out []api.Message
	from := source(5)
	for k := api.MsgAsk; k <= api.MsgPast; k++ {
		out = append(out, full(k), api.Message{Kind: k})
		for range 40 {
			out = append(out, anyOf(k, from))
		}
	}
	return append(out, edges()...)
}

// edges is right messages with as much as may be.
func edges() []api.Message {
	long := strings.Repeat("\xc3", api.MaxText)
	return []api.Message{
		{Kind: api.MsgList, Name: long[:64995]},
		{Kind: api.MsgHistory, Client: 1<<63 - 1, Request: 1<<63 - 1, Name: "\x00"},
		{Kind: api.MsgLaunch, Node: 1<<63 - 1, Epoch: 1<<63 - 1, Job: 1<<63 - 1, Cores: 1<<63 - 1, Left: 1<<63 - 1},
		{Kind: api.MsgDone, N: -1 << 63}, {Kind: api.MsgDone, N: -1}, {Kind: api.MsgQueue, N: -1}, {Kind: api.MsgQueue, N: 1<<63 - 1},
		{Kind: api.MsgReply, Answer: api.Answer{Err: -1 << 63}}, {Kind: api.MsgReply, Answer: api.Answer{Err: 1<<63 - 1}},
		{Kind: api.MsgReply, Answer: api.Answer{Ids: make([]int, 256), Overs: make([]api.Over, 128), Starts: make([]api.Start, 128)}},
		{Kind: api.MsgReply, Answer: api.Answer{Ids: []int{0, -1, 1<<63 - 1, -1 << 63}, Overs: []api.Over{{}, {Id: -1, State: 255}}, Starts: []api.Start{{}, {Id: -1 << 63, On: 1<<32 - 1}}}},
		{Kind: api.MsgAsk, Event: api.Event{Kind: 255, Id: -1 << 63, N: 1<<63 - 1, Resv: api.Resv{Nodes: 1<<32 - 1, From: -1 << 63, To: -1}}},
		{Kind: api.MsgAsk, Event: api.Event{Spec: api.Spec{Nodes: -1, Cores: -1, Limit: -1, Deps: []api.Dep{{}, {Kind: 255, Id: -1}, {Id: 7}}}}},
		{Kind: api.MsgAsk, Event: api.Event{Spec: api.Spec{Deps: make([]api.Dep, 128)}, Resv: api.Resv{Accounts: make([]string, 256)}}},
		{Kind: api.MsgAsk, Event: api.Event{Resv: api.Resv{Accounts: []string{""}}}},
		{Kind: api.MsgAsk, Event: api.Event{Resv: api.Resv{Accounts: []string{"", "\xff\xfe", long[:64000]}}}},
		{Kind: api.MsgQueue, Jobs: make([]api.Job, 256)}, {Kind: api.MsgPast, Runs: make([]api.Run, 256)},
		{Kind: api.MsgQueue, Jobs: []api.Job{{Id: -1, State: 255, On: 1<<32 - 1, Exit: -1 << 63}, {}, {Spec: api.Spec{Deps: make([]api.Dep, 128), Cores: -7}}}},
		{Kind: api.MsgRecord, Past: api.Past{Id: -1 << 63, What: 255, At: -1, Nodes: -1, Cores: -1, State: 255}},
		{Kind: api.MsgTaken, Past: api.Past{Id: -1, What: 255}},
		{Kind: api.MsgPast, Runs: []api.Run{{Id: -1, State: 255, Submit: -1 << 63, Start: -1, End: 1<<63 - 1, Nodes: -1, Cores: -1}, {}}},
	}
}

// spare is bytes with others in their room to spare.
func spare(b []byte) []byte {
	return slices.Concat(b, bytes.Repeat([]byte{7}, 64))[:len(b)]
}
