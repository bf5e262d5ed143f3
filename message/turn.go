package message

import (
	"slices"

	"muster/api"
	"muster/field"
)

// turn.go: values and lists turned into fields, and back.

// whole is any number that a part holds; a field has room for each of them.
type whole interface {
	~int | ~int64 | ~uint8 | ~uint32
}

func number[N whole](tag uint8, n N) api.Field {
	return api.Field{Tag: tag, Kind: api.FieldInt, N: int64(n)}
}

func text(tag uint8, s string) api.Field {
	return api.Field{Tag: tag, Kind: api.FieldText, Text: s}
}

func numbers(tag uint8, ns []int64) api.Field {
	return api.Field{Tag: tag, Kind: api.FieldInts, Ns: ns}
}

func texts(tag uint8, ss []string) api.Field {
	return api.Field{Tag: tag, Kind: api.FieldTexts, Texts: ss}
}

// gather is l and behind it those of more that hold something: what is 0, empty or none has no field.
func gather(l []api.Field, more ...api.Field) []api.Field {
	for _, f := range more {
		if f.N != 0 || f.Text != "" || len(f.Ns) > 0 || len(f.Texts) > 0 {
			l = append(l, f)
		}
	}
	return l
}

// numberIn is the number under tag. One that is above its type is cut off; who asks holds it against what was there.
func numberIn[N whole](l []api.Field, tag uint8) N {
	f, _ := field.Get(l, tag)
	return N(f.N)
}

func textIn(l []api.Field, tag uint8) string {
	f, _ := field.Get(l, tag)
	return f.Text
}

func numbersIn(l []api.Field, tag uint8) []int64 {
	f, _ := field.Get(l, tag)
	return f.Ns
}

func textsIn(l []api.Field, tag uint8) []string {
	f, _ := field.Get(l, tag)
	return f.Texts
}

// turned is what turn makes of each of l.
func turned[P, Q any](l []P, turn func(P) Q) []Q {
	var out []Q
	for _, p := range l {
		out = append(out, turn(p))
	}
	return out
}

// pairs is the two numbers of each of l, one behind the other.
func pairs[P any](l []P, two func(P) []int64) []int64 {
	return slices.Concat(turned(l, two)...)
}

// fromPairs is what part makes of each two numbers; one that is left alone is passed over.
func fromPairs[P any](ns []int64, part func(first, second int64) P) []P {
	var out []P
	for i := 1; i < len(ns); i += 2 {
		out = append(out, part(ns[i-1], ns[i]))
	}
	return out
}

// partText is the bytes of a part's fields as a text. They are never none, so it is there even of a part that holds nothing.
func partText(tag uint8, part []api.Field) (api.Field, api.Errno) {
	b, err := field.Put(part)
	if err != api.OK {
		return api.Field{}, err
	}
	return text(tag, string(b)), api.OK
}

func partTexts(tag uint8, parts [][]api.Field) (api.Field, api.Errno) {
	var ss []string
	for _, part := range parts {
		f, err := partText(tag, part)
		if err != api.OK {
			return api.Field{}, err
		}
		ss = append(ss, f.Text)
	}
	return texts(tag, ss), api.OK
}

// partFrom is the part whose bytes s are; one that holds nothing if they are none.
func partFrom[P any](s string, from func([]api.Field) P) P {
	l, _ := field.All([]byte(s))
	return from(l)
}

func partsFrom[P any](ss []string, from func([]api.Field) P) []P {
	return turned(ss, func(s string) P { return partFrom(s, from) })
}

func sameFields(a, b []api.Field) bool {
	return slices.EqualFunc(a, b, func(f, g api.Field) bool {
		return f.Tag == g.Tag && f.Kind == g.Kind && f.N == g.N && f.Text == g.Text &&
			slices.Equal(f.Ns, g.Ns) && slices.Equal(f.Texts, g.Texts)
	})
}
