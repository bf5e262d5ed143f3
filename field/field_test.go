package field_test

import (
	"bytes"
	"encoding/binary"
	"math"
	"slices"
	"strings"
	"testing"

	"muster/api"
	"muster/field"
)

// pattern: n bytes that look like no run, the same at each call.
func pattern(n int, seed uint32) []byte {
	b := make([]byte, n)
	for i := range b {
		seed = seed*1664525 + 1013904223
		b[i] = byte(seed >> 24)
	}
	return b
}

func number(tag uint8, n int64) api.Field {
	return api.Field{Tag: tag, Kind: api.FieldInt, N: n}
}

func text(tag uint8, s string) api.Field {
	return api.Field{Tag: tag, Kind: api.FieldText, Text: s}
}

func numbers(tag uint8, ns ...int64) api.Field {
	return api.Field{Tag: tag, Kind: api.FieldInts, Ns: ns}
}

func texts(tag uint8, ss ...string) api.Field {
	return api.Field{Tag: tag, Kind: api.FieldTexts, Texts: ss}
}

// list is fields as a list, for short.
func list(fs ...api.Field) []api.Field {
	return fs
}

// upTo is n fields, their tags from 0 on.
func upTo(n int) []api.Field {
	var l []api.Field
	for i := range n {
		l = append(l, number(uint8(i), int64(i+1)))
	}
	return l
}

func sameField(x, y api.Field) bool {
	return x.Tag == y.Tag && x.Kind == y.Kind && x.N == y.N && x.Text == y.Text &&
		slices.Equal(x.Ns, y.Ns) && slices.Equal(x.Texts, y.Texts)
}

func same(a, b []api.Field) bool {
	return slices.EqualFunc(a, b, sameField)
}

// written is the chapter's form of fields, right or not, put together by the library, to hold the program's against.
func written(l []api.Field) []byte {
	put := binary.BigEndian
	addText := func(b []byte, s string) []byte {
		return append(put.AppendUint16(b, uint16(len(s))), s...)
	}
	b := []byte{byte(len(l))}
	for _, f := range l {
		b = append(b, f.Tag, byte(f.Kind))
		switch f.Kind {
		case 1:
			b = put.AppendUint64(b, uint64(f.N))
		case 2:
			b = addText(b, f.Text)
		case 3:
			b = put.AppendUint16(b, uint16(len(f.Ns)))
			for _, n := range f.Ns {
				b = put.AppendUint64(b, uint64(n))
			}
		case 4:
			b = put.AppendUint16(b, uint16(len(f.Texts)))
			for _, s := range f.Texts {
				b = addText(b, s)
			}
		}
	}
	return b
}

// rights: lists of right fields whose bytes are at most MaxBody, the edges among them.
func rights() [][]api.Field {
	long := string(pattern(api.MaxBody, 1))
	all := list(number(0, -5), text(1, "ab"), numbers(2, 1, -2, 3), texts(254, "", "x", "yz"), number(255, 7))
	ls := [][]api.Field{
		nil, {}, all, all[1:], all[2:4], upTo(1), upTo(2), upTo(63), upTo(64),
		list(number(0, 1)), list(number(255, -1)), list(number(9, math.MaxInt64)), list(number(9, math.MinInt64)), list(number(9, 1<<32)), list(number(9, 256)),
		list(text(3, "a")), list(text(3, "\x00")), list(text(3, "\xff\xfe")), list(text(3, long[:256])), list(text(3, long[:64995])),
		list(numbers(4, 0)), list(numbers(4, -1)), list(numbers(4, 0, 0, 0)), list(numbers(4, math.MinInt64, math.MaxInt64)), list(numbers(4, make([]int64, 256)...)),
		list(texts(5, "")), list(texts(5, "a")), list(texts(5, "", "")), list(texts(5, "", "a", "")), list(texts(5, make([]string, 256)...)), list(texts(5, long[:64993])),
	}
	for n := range 30 {
		b := string(pattern(n*3+1, uint32(n)))
		ls = append(ls, list(number(uint8(n), int64(n)-40), texts(uint8(n+1), b, b[n:], ""), text(uint8(n+7), b), numbers(uint8(200+n), int64(n), int64(-n))))
	}
	return ls
}

// wrongs: lists that are not right.
func wrongs() map[string][]api.Field {
	above := strings.Repeat("a", api.MaxText+1)
	return map[string][]api.Field{
		"65 fields":              upTo(65),
		"256 fields":             append(upTo(255), number(255, 1)),
		"257 fields":             append(upTo(256), number(255, 1)),
		"same tags":              list(number(2, 1), text(2, "a")),
		"same tags of 0":         list(number(0, 1), number(0, 1)),
		"falling tags":           list(number(3, 1), text(2, "a")),
		"falling at the end":     list(number(1, 1), number(2, 1), number(3, 1), number(2, 1)),
		"from 255 to 0":          list(number(255, 1), number(0, 1)),
		"kind 0":                 list(api.Field{Tag: 1}),
		"kind 0 with a number":   list(api.Field{Tag: 1, N: 5}),
		"kind 5":                 list(api.Field{Tag: 1, Kind: 5}),
		"kind 5 with a number":   list(api.Field{Tag: 1, Kind: 5, N: 5}),
		"kind 5 with texts":      list(api.Field{Tag: 1, Kind: 5, Texts: []string{"a"}}),
		"kind 255 with a text":   list(api.Field{Tag: 1, Kind: 255, Text: "a"}),
		"number 0":               list(number(1, 0)),
		"number 0 behind others": list(number(1, 1), number(2, 0)),
		"number 0 ahead":         list(number(1, 0), number(2, 1)),
		"text of none":           list(text(1, "")),
		"text of 65536":          list(text(1, above)),
		"no numbers":             list(numbers(1)),
		"empty numbers":          list(numbers(1, []int64{}...)),
		"257 numbers":            list(numbers(1, make([]int64, 257)...)),
		"no texts":               list(texts(1)),
		"empty texts":            list(texts(1, []string{}...)),
		"257 texts":              list(texts(1, make([]string, 257)...)),
		"one of 65536 in texts":  list(texts(1, above)),
		"last of 65536 in texts": list(texts(1, "a", "", above)),
	}
}

// long: right lists whose bytes are more than MaxBody.
func longs() map[string][]api.Field {
	most := strings.Repeat("a", api.MaxText)
	many := slices.Repeat([]string{most}, api.MaxList)
	var wide []api.Field
	for i := range api.MaxFields {
		wide = append(wide, texts(uint8(i), many...))
	}
	return map[string][]api.Field{
		"text of 64996":       list(text(3, most[:64996])),
		"text of 65535":       list(text(3, most)),
		"texts of 64994":      list(texts(3, most[:64994])),
		"texts of 65535":      list(texts(3, most)),
		"one byte in a later": list(number(1, 1), text(3, most[:64986])),
		"64 of 256 of 65535":  wide,
		"numbers":             manyNumbers(32, 256),
	}
}

// manyNumbers is n fields of so many numbers each.
func manyNumbers(n, each int) []api.Field {
	var l []api.Field
	for i := range n {
		l = append(l, numbers(uint8(i), make([]int64, each)...))
	}
	return l
}

// P4.1.
func TestRight(t *testing.T) {
	for i, l := range rights() {
		if !field.Right(l) {
			t.Errorf("list %d: not right", i)
		}
	}
	for name, l := range longs() {
		if !field.Right(l) {
			t.Errorf("%s: not right", name)
		}
	}
	for name, l := range wrongs() {
		if field.Right(l) {
			t.Errorf("%s: right", name)
		}
	}
}

// P4.1: each kind with each choice of what it holds; only just what it names is right.
func TestRightHoldsWhatItsKindNames(t *testing.T) {
	for kind := range 256 {
		for held := range 16 {
			f := api.Field{Tag: 1, Kind: api.FieldKind(kind), Ns: []int64{}, Texts: []string{}}
			if held&1 != 0 {
				f.N = -1
			}
			if held&2 != 0 {
				f.Text = "\x00"
			}
			if held&4 != 0 {
				f.Ns = []int64{0}
			}
			if held&8 != 0 {
				f.Texts = []string{""}
			}
			want := kind >= 1 && kind <= 4 && held == 1<<(kind-1)
			if got := field.Right(list(f)); got != want {
				t.Errorf("kind %d holding %04b: %v", kind, held, got)
			}
			if _, e := field.Put(list(f)); (e == api.OK) != want {
				t.Errorf("Put of kind %d holding %04b: %d", kind, held, e)
			}
		}
	}
}

// P4.1: every two tags.
func TestRightTagsRise(t *testing.T) {
	for a := range 256 {
		for b := range 256 {
			l := list(number(uint8(a), 1), text(uint8(b), "a"))
			if got := field.Right(l); got != (a < b) {
				t.Fatalf("tags %d, %d: %v", a, b, got)
			}
		}
	}
}

// P4.1: the first one counts; the lists that are asked need not be right.
func TestGet(t *testing.T) {
	l := list(numbers(7, 1, 2), number(3, 0), text(7, "second"), texts(0, "a", ""), api.Field{Tag: 9, Kind: 77, N: 4, Text: "x", Ns: []int64{5}, Texts: []string{"y"}})
	for tag := range 256 {
		want, there := api.Field{}, false
		if i := slices.IndexFunc(l, func(f api.Field) bool { return int(f.Tag) == tag }); i >= 0 {
			want, there = l[i], true
		}
		if f, ok := field.Get(l, uint8(tag)); ok != there || !sameField(f, want) {
			t.Errorf("Get(%d) = %v, %v", tag, f, ok)
		}
	}
	for _, none := range [][]api.Field{nil, {}} {
		if f, ok := field.Get(none, 0); ok || !sameField(f, api.Field{}) {
			t.Errorf("Get of none = %v, %v", f, ok)
		}
	}
}

// P4.2, P4.3, the chapter's examples.
func TestExamples(t *testing.T) {
	for _, c := range []struct {
		l []api.Field
		b []byte
	}{
		{list(number(1, 5), text(2, "ab")), []byte{2, 1, 1, 0, 0, 0, 0, 0, 0, 0, 5, 2, 2, 0, 2, 0x61, 0x62}},
		{nil, []byte{0}},
		{list(numbers(3, -1)), []byte{1, 3, 3, 0, 1, 0xff, 0xff, 0xff, 0xff, 0xff, 0xff, 0xff, 0xff}},
		{list(texts(4, "", "c")), []byte{1, 4, 4, 0, 2, 0, 0, 0, 1, 0x63}},
	} {
		if b, e := field.Put(c.l); e != api.OK || !bytes.Equal(b, c.b) {
			t.Errorf("Put(%v) = % x, %d", c.l, b, e)
		}
		if l, e := field.All(c.b); e != api.OK || !same(l, c.l) {
			t.Errorf("All(% x) = %v, %d", c.b, l, e)
		}
	}
	for _, b := range [][]byte{nil, {}, {1}, {0, 0}} {
		refused(t, b)
	}
}

// P4.2: the bytes; P4.4: All of Put.
func TestPut(t *testing.T) {
	for i, l := range rights() {
		b, e := field.Put(l)
		if e != api.OK || !bytes.Equal(b, written(l)) {
			t.Fatalf("list %d: Put = %d bytes, %d; want %d bytes", i, len(b), e, len(written(l)))
		}
		if back, e := field.All(b); e != api.OK || !same(back, l) {
			t.Errorf("list %d: All of Put = %d fields, %d", i, len(back), e)
		}
	}
}

// P4.2: what is not right, and R2.
func TestPutRefuses(t *testing.T) {
	for name, l := range wrongs() {
		if b, e := field.Put(l); e != api.ErrArg || b != nil {
			t.Errorf("%s: %d bytes, %d", name, len(b), e)
		}
	}
	for name, l := range longs() {
		if b, e := field.Put(l); e != api.ErrLong || b != nil {
			t.Errorf("%s: %d bytes, %d", name, len(b), e)
		}
	}
	// Not right and too long: the error that is named first.
	long := text(3, strings.Repeat("a", api.MaxText))
	for _, l := range [][]api.Field{list(long, number(2, 1)), list(long, number(4, 0)), append(manyNumbers(64, 256), number(64, 1))} {
		if b, e := field.Put(l); e != api.ErrArg || b != nil {
			t.Errorf("%d fields, wrong and long: %d bytes, %d", len(l), len(b), e)
		}
	}
}

// P4.2, P4.3: each kind at 65000 bytes and at one byte more.
func TestBodyLimit(t *testing.T) {
	fill := strings.Repeat("\xc3", api.MaxText)
	for name, filled := range map[string]func(n int) []api.Field{
		"text":         func(n int) []api.Field { return list(text(3, fill[:n])) },
		"texts":        func(n int) []api.Field { return list(texts(3, fill[:n])) },
		"many texts":   func(n int) []api.Field { return list(texts(3, fill[:300], "", fill[:n-302], "")) },
		"number":       func(n int) []api.Field { return list(number(1, -1), text(3, fill[:n])) },
		"numbers":      func(n int) []api.Field { return list(numbers(1, 1, 0, 3), text(3, fill[:n])) },
		"more numbers": func(n int) []api.Field { return append(manyNumbers(31, 256), text(31, fill[:n])) },
		"all":          func(n int) []api.Field { return append(upTo(63), text(63, fill[:n])) },
	} {
		n := 1000
		n += api.MaxBody - len(written(filled(n)))
		l := filled(n)
		b, e := field.Put(l)
		if e != api.OK || len(b) != api.MaxBody || !bytes.Equal(b, written(l)) {
			t.Errorf("%s of 65000: %d bytes, %d", name, len(b), e)
		}
		if back, e := field.All(written(l)); e != api.OK || !same(back, l) {
			t.Errorf("%s of 65000: %d fields, %d", name, len(back), e)
		}
		l = filled(n + 1)
		if b, e := field.Put(l); e != api.ErrLong || b != nil {
			t.Errorf("%s of 65001: %d bytes, %d", name, len(b), e)
		}
		refused(t, written(l))
	}
}

// refused asks that b are no fields' bytes.
func refused(t *testing.T, b []byte) {
	t.Helper()
	if l, e := field.All(b); e != api.ErrField || l != nil {
		t.Errorf("All of %d bytes, % x ..: %d fields, %d", len(b), b[:min(len(b), 12)], len(l), e)
	}
}

// P4.3: bytes in the chapter's form of fields that are not right.
func TestAllRefusesWrongFields(t *testing.T) {
	// What a kind does not name, or a length can't say, does not come into the bytes.
	unsaid := map[string]bool{"257 fields": true, "text of 65536": true, "one of 65536 in texts": true, "last of 65536 in texts": true}
	for name, l := range wrongs() {
		if !unsaid[name] {
			refused(t, written(l))
		}
	}
	for kind := range 256 {
		if kind >= 1 && kind <= 4 {
			continue
		}
		refused(t, []byte{1, 1, byte(kind)})
		refused(t, []byte{1, 1, byte(kind), 0, 0, 0, 0, 0, 0, 0, 5})
		refused(t, []byte{1, 1, byte(kind), 0, 1, 'a'})
	}
}

// P4.3, P4.4: cut anywhere, and going on behind.
func TestAllRefusesCutAndLonger(t *testing.T) {
	for _, l := range rights() {
		b := written(l)
		// Of long ones the cuts near both ends and some between.
		step := 1 + len(b)/2000
		for n := 0; n < len(b); n += step {
			refused(t, b[:n])
		}
		for n := max(0, len(b)-20); n < len(b); n++ {
			refused(t, b[:n])
		}
		for _, more := range [][]byte{{0}, {1}, {255}, {0, 0}, b} {
			refused(t, slices.Concat(b, more))
		}
	}
	// Bytes that lie beyond the end, in the room to spare, do not count.
	b := written(list(number(1, 5), text(2, "ab")))
	for n := range b {
		refused(t, b[:n])
	}
}

// P4.3: counts and lengths that say more, or less, than there is.
func TestAllRefusesWrongCounts(t *testing.T) {
	whole := map[string][]byte{
		"fields": written(list(number(1, 5), text(2, "ab"))),
		"text":   written(list(text(2, "abc"))),
		"ints":   written(list(numbers(2, 1, 2))),
		"texts":  written(list(texts(2, "a", "bc", ""))),
	}
	for v := range 256 {
		b := slices.Clone(whole["fields"])
		b[0] = byte(v)
		if v != 2 {
			refused(t, b)
		}
	}
	for name, right := range map[string]int{"text": 3, "ints": 2, "texts": 3} {
		for v := range 1 << 16 {
			b := slices.Clone(whole[name])
			binary.BigEndian.PutUint16(b[3:], uint16(v))
			if v != right {
				refused(t, b)
			}
		}
	}
	for v := range 1 << 16 {
		b := slices.Clone(whole["texts"])
		binary.BigEndian.PutUint16(b[8:], uint16(v))
		if v != 2 {
			refused(t, b)
		}
	}
	refused(t, slices.Repeat([]byte{255}, 65000))
	refused(t, make([]byte, 65000))
	for kind := range 5 {
		refused(t, slices.Concat([]byte{255, 1, byte(kind)}, slices.Repeat([]byte{255}, 64997)))
		refused(t, slices.Concat([]byte{1, 1, byte(kind), 255, 255}, make([]byte, 64995)))
	}
}

// P4.3, P4.4: whatever bytes All takes, Put tells again; whatever it refuses is no list's bytes. All short bytes of a few values, and fields' bytes with any one byte changed.
func TestPutOfAll(t *testing.T) {
	taken := 0
	check := func(b []byte) {
		l, e := field.All(b)
		if e != api.OK {
			if e != api.ErrField || l != nil {
				t.Fatalf("All(% x) = %v, %d", b, l, e)
			}
			return
		}
		taken++
		if !field.Right(l) {
			t.Fatalf("All(% x) = %v: not right", b, l)
		}
		if back, e := field.Put(l); e != api.OK || !bytes.Equal(back, b) {
			t.Fatalf("Put of All(% x) = % x, %d", b, back, e)
		}
	}
	for n := range 9 {
		b := make([]byte, n)
		for more := true; more; more = next(b, 4) {
			check(b)
		}
	}
	base := written(list(number(1, 5), text(2, "ab"), numbers(3, -1), texts(4, "", "c")))
	for i := range base {
		b := slices.Clone(base)
		for v := range 256 {
			b[i] = byte(v)
			check(b)
		}
	}
	// Of these are right: each changed number, texts' bytes, some tags; and of the short ones 00 and small texts.
	if taken < 1000 {
		t.Errorf("only %d lists of bytes were taken", taken)
	}
}

// next makes b the next list of bytes from 0 to most, and says false behind the last.
func next(b []byte, most byte) bool {
	for i := len(b) - 1; i >= 0; i-- {
		if b[i] < most {
			b[i]++
			return true
		}
		b[i] = 0
	}
	return false
}

// P4.4: unlike fields have unlike bytes.
func TestUnlikeFieldsUnlikeBytes(t *testing.T) {
	seen := map[string]int{}
	ls := rights()
	for i, l := range ls {
		b, _ := field.Put(l)
		if j, ok := seen[string(b)]; ok && !same(l, ls[j]) {
			t.Errorf("lists %d and %d have the same bytes", j, i)
		}
		seen[string(b)] = i
	}
}

// deep copies l and the room to spare of all its lists.
func deep(l []api.Field) []api.Field {
	out := slices.Clone(l[:cap(l)])
	for i, f := range out {
		out[i].Ns = slices.Clone(f.Ns[:cap(f.Ns)])
		out[i].Texts = slices.Clone(f.Texts[:cap(f.Texts)])
	}
	return out
}

// roomy is fields in lists that all have room to spare, with something in it.
func roomy() []api.Field {
	ns := []int64{4, 5, 6, 7, 8}
	ss := []string{"a", "", "c", "d", "e"}
	l := list(number(1, 9), numbers(2, ns[:3]...), texts(3, ss[:2]...), text(4, "zz"), number(5, 1), number(6, 2))
	l[1].Ns, l[2].Texts = ns[:3], ss[:2]
	return l[:4]
}

// R3: nothing that is handed in is changed, its spare room neither.
func TestArgumentsAreLeft(t *testing.T) {
	l := roomy()
	was := deep(l)
	field.Right(l)
	b, e := field.Put(l)
	field.Get(l, 2)
	field.Get(l, 3)
	if e != api.OK || !same(deep(l), was) {
		t.Error("the fields were changed", e)
	}
	room := slices.Concat(b, pattern(64, 5))
	before := slices.Clone(room)
	field.All(room[:len(b)])
	field.All(room[:len(b)-1])
	field.All(room[:len(b)+1])
	if !bytes.Equal(room, before) {
		t.Error("the bytes were changed")
	}
}

// R3: what is handed out is new; changes of it, spare room too, are seen nowhere else.
func TestAnswersAreNew(t *testing.T) {
	l := roomy()
	was := deep(l)
	for _, tag := range []uint8{2, 3} {
		f, _ := field.Get(l, tag)
		spoil(list(f))
	}
	if !same(deep(l), was) {
		t.Error("Get hands out memory of its argument")
	}
	b, _ := field.Put(l)
	for i := range b[:cap(b)] {
		b[:cap(b)][i] ^= 0xa5
	}
	if again, _ := field.Put(l); !same(deep(l), was) || !bytes.Equal(again, written(l)) {
		t.Error("Put hands out memory that it holds on to")
	}
	in := written(l)
	one, _ := field.All(in)
	two, _ := field.All(in)
	for i := range in {
		in[i] ^= 0xa5
	}
	if !same(one, l) || !same(two, l) {
		t.Error("All hands out memory of its argument")
	}
	spoil(one)
	if !same(two, l) {
		t.Error("two answers of All share memory")
	}
}

// R3: no two lists of one answer share memory.
func TestListsOfAnAnswerAreApart(t *testing.T) {
	l := list(numbers(1, 1, 2, 3), numbers(2, 4), numbers(3, 5, 6), texts(4, "a", "b", "c"), texts(5, "d"), texts(6, "e", "f"))
	for i := range l {
		got, e := field.All(written(l))
		if e != api.OK {
			t.Fatal(e)
		}
		spoil(got[i : i+1 : i+1])
		for j := range l {
			if j != i && !sameField(got[j], l[j]) {
				t.Errorf("lists %d and %d share memory", i, j)
			}
		}
	}
}

// spoil overwrites all lists of l, their spare room, and l itself.
func spoil(l []api.Field) {
	for _, f := range l {
		ns, ss := f.Ns[:cap(f.Ns)], f.Texts[:cap(f.Texts)]
		for i := range ns {
			ns[i] = -77
		}
		for i := range ss {
			ss[i] = "spoilt"
		}
	}
	l = l[:cap(l)]
	for i := range l {
		l[i] = number(99, 99)
	}
}
