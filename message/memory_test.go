package message_test

import (
	"bytes"
	"reflect"
	"slices"
	"strings"
	"testing"

	"muster/api"
	"muster/message"
)

// memory_test.go: R3 of messages: what is handed in is left as it is, what is handed out is new.

// roomy is m with all its lists in memory that has room to spare, with something in it.
func roomy(m api.Message) api.Message {
	for _, path := range paths(m) {
		do(&m, path, func(v reflect.Value) {
			if v.Kind() != reflect.Slice || v.Len() == 0 {
				return
			}
			room := reflect.MakeSlice(v.Type(), v.Len()+3, v.Len()+3)
			reflect.Copy(room, v)
			next := 0
			for i := range 3 {
				fill(room.Index(v.Len()+i), &next)
			}
			v.Set(room.Slice(0, v.Len()))
		})
	}
	return m
}

// rooms is all that the lists of m hold, their room to spare too.
func rooms(m api.Message) map[string]any {
	out := map[string]any{}
	each(reflect.ValueOf(m), "", func(path string, v reflect.Value) {
		if v.Kind() == reflect.Slice {
			for i := range v.Cap() {
				each(v.Slice(0, v.Cap()).Index(i), path, func(inner string, v reflect.Value) {
					if v.Kind() != reflect.Slice {
						out[path+" "+string(rune('0'+i))+" "+inner] = v.Interface()
					}
				})
			}
		} else {
			out[path] = v.Interface()
		}
	})
	return out
}

// spoil overwrites a list, its room to spare too.
func spoil(v reflect.Value) {
	all := v.Slice(0, v.Cap())
	for i := range all.Len() {
		all.Index(i).SetZero()
	}
}

// R3: nothing that is handed in is changed, its spare room neither.
func TestArgumentsAreLeft(t *testing.T) {
	for k := range had {
		m := roomy(full(k))
		was := rooms(m)
		message.Right(m)
		b, e := message.Encode(m)
		message.Same(m, m)
		message.EventBytes(m.Event)
		if e != api.OK || !reflect.DeepEqual(rooms(m), was) {
			t.Errorf("kind %d: the message was changed, %d", k, e)
		}
		room := spare(b)
		before := slices.Clone(room[:cap(room)])
		message.Decode(room)
		message.Decode(room[:len(room)-1])
		message.Decode(room[:len(room)+1])
		message.EventOf(room[2:])
		if !bytes.Equal(room[:cap(room)], before) {
			t.Errorf("kind %d: the bytes were changed", k)
		}
	}
	all := roomy(everything())
	was := rooms(all)
	message.Right(all)
	message.Encode(all)
	message.Same(all, everything())
	message.Same(everything(), all)
	if !reflect.DeepEqual(rooms(all), was) {
		t.Error("the message that holds all was changed")
	}
}

// R3: bytes that are handed out are new.
func TestBytesAreNew(t *testing.T) {
	for k := range had {
		m := roomy(full(k))
		was := rooms(m)
		for name, call := range map[string]func() ([]byte, api.Errno){
			"Encode":     func() ([]byte, api.Errno) { return message.Encode(m) },
			"EventBytes": func() ([]byte, api.Errno) { return message.EventBytes(m.Event) },
		} {
			first, _ := call()
			kept := slices.Clone(first)
			second, _ := call()
			for i := range first[:cap(first)] {
				first[:cap(first)][i] ^= 0xa5
			}
			third, _ := call()
			if !bytes.Equal(second, kept) || !bytes.Equal(third, kept) || !reflect.DeepEqual(rooms(m), was) {
				t.Errorf("kind %d: %s hands out memory that it holds on to", k, name)
			}
		}
	}
}

// R3: messages and events that are handed out are new, and keep nothing of the bytes.
func TestMessagesAreNew(t *testing.T) {
	for k := range had {
		want := full(k)
		for name, call := range map[string]func(b []byte) api.Message{
			"Decode": func(b []byte) api.Message {
				m, _ := message.Decode(b)
				return m
			},
			"EventOf": func(b []byte) api.Message {
				e, _ := message.EventOf(b)
				return api.Message{Kind: k, Event: e}
			},
		} {
			in := bytesOf(want)
			if name == "EventOf" {
				want = api.Message{Kind: k, Event: want.Event}
				in = eventBytes(want.Event)
			}
			one, two := call(in), call(in)
			for i := range in {
				in[i] ^= 0xa5
			}
			if !alike(one, want) || !alike(two, want) {
				t.Errorf("kind %d: %s hands out memory of its argument", k, name)
			}
			each(reflect.ValueOf(&one).Elem(), "", func(_ string, v reflect.Value) {
				if v.Kind() == reflect.Slice {
					spoil(v)
				}
			})
			if !alike(two, want) {
				t.Errorf("kind %d: two answers of %s share memory", k, name)
			}
		}
	}
}

// R3: no two lists of one answer share memory, their room to spare neither.
func TestListsOfAnAnswerAreApart(t *testing.T) {
	lists := 0
	for k := range had {
		want := full(k)
		for _, path := range paths(want) {
			m, e := message.Decode(bytesOf(want))
			if e != api.OK {
				t.Fatal(e)
			}
			isList := false
			do(&m, path, func(v reflect.Value) {
				if isList = v.Kind() == reflect.Slice; isList {
					spoil(v)
				}
			})
			if !isList || !has(k, path) {
				continue
			}
			lists++
			// All but what stands in the list itself is as it was.
			each(reflect.ValueOf(m), "", func(p string, v reflect.Value) {
				if v.Kind() == reflect.Slice || strings.HasPrefix(p, path+".") {
					return
				}
				do(&want, p, func(w reflect.Value) {
					if w.Interface() != v.Interface() {
						t.Errorf("kind %d: %s shares memory with %s", k, path, p)
					}
				})
			})
		}
	}
	if lists != 9 {
		t.Errorf("%d lists", lists)
	}
}
