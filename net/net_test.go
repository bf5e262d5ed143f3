package net_test

import (
	"bytes"
	"fmt"
	"math"
	"slices"
	"testing"

	"muster/api"
	"muster/net"
)

const (
	mostBytes   = 65545
	mostPackets = 256
)

// parcel is one packet of the model; one that is gone stays in its place.
type parcel struct {
	from, to int
	body     string
	gone     bool
}

// model is the chapter's net told again in the plainest way: all packets that ever were, the one of number i at i-1.
type model struct {
	all []parcel
}

func (m *model) count() int {
	n := 0
	for _, p := range m.all {
		if !p.gone {
			n++
		}
	}
	return n
}

func (m *model) find(number int) *parcel {
	if number < 1 || number > len(m.all) || m.all[number-1].gone {
		return nil
	}
	return &m.all[number-1]
}

func (m *model) send(from, to int, body string) (int, api.Errno) {
	if len(body) > mostBytes {
		return 0, api.ErrLong
	}
	if m.count() == mostPackets {
		return 0, api.ErrFull
	}
	m.all = append(m.all, parcel{from: from, to: to, body: body})
	return len(m.all), api.OK
}

func (m *model) deliver(number int) (api.Packet, api.Errno) {
	p := m.find(number)
	if p == nil {
		return api.Packet{}, api.ErrPacket
	}
	p.gone = true
	return api.Packet{Number: number, From: p.from, To: p.to, Body: []byte(p.body)}, api.OK
}

func (m *model) drop(number int) api.Errno {
	_, e := m.deliver(number)
	return e
}

func (m *model) double(number int) (int, api.Errno) {
	p := m.find(number)
	if p == nil {
		return 0, api.ErrPacket
	}
	return m.send(p.from, p.to, p.body)
}

func (m *model) list() []api.Packet {
	var l []api.Packet
	for i, p := range m.all {
		if !p.gone {
			l = append(l, api.Packet{Number: i + 1, From: p.from, To: p.to, Body: []byte(p.body)})
		}
	}
	return l
}

func (m *model) copy() *model {
	return &model{all: slices.Clone(m.all)}
}

func same(a, b api.Packet) bool {
	return a.Number == b.Number && a.From == b.From && a.To == b.To && bytes.Equal(a.Body, b.Body)
}

func isZero(p api.Packet) bool {
	return p.Number == 0 && p.From == 0 && p.To == 0 && len(p.Body) == 0
}

// brief names packets without bodies that fill a page.
func brief(l []api.Packet) string {
	s := fmt.Sprint(len(l), " packets")
	for _, p := range l {
		s += fmt.Sprintf(" %d:%d>%d:%.20q", p.Number, p.From, p.To, p.Body)
	}
	return s
}

// alike holds all that can be looked at against the model.
func alike(t *testing.T, what string, n *net.Net, m *model) {
	t.Helper()
	if got, want := n.List(), m.list(); !slices.EqualFunc(got, want, same) {
		t.Fatalf("%s: List() = %s; want %s", what, brief(got), brief(want))
	}
}

// pair is a net and its model, which each call goes to; it fails unless both answer alike.
type pair struct {
	t *testing.T
	n *net.Net
	m *model
}

func begin(t *testing.T) *pair {
	return &pair{t, net.New(), &model{}}
}

func (p *pair) send(from, to int, body string) (int, api.Errno) {
	p.t.Helper()
	got, e := p.n.Send(from, to, []byte(body))
	want, f := p.m.send(from, to, body)
	if got != want || e != f {
		p.t.Fatalf("Send(%d, %d, %d bytes) = %d, %d; want %d, %d", from, to, len(body), got, e, want, f)
	}
	alike(p.t, "behind Send", p.n, p.m)
	return got, e
}

func (p *pair) deliver(number int) (api.Packet, api.Errno) {
	p.t.Helper()
	got, e := p.n.Deliver(number)
	want, f := p.m.deliver(number)
	if !same(got, want) || e != f {
		p.t.Fatalf("Deliver(%d) = %s, %d; want %s, %d", number, brief([]api.Packet{got}), e, brief([]api.Packet{want}), f)
	}
	alike(p.t, fmt.Sprintf("behind Deliver(%d)", number), p.n, p.m)
	return got, e
}

func (p *pair) drop(number int) api.Errno {
	p.t.Helper()
	got, want := p.n.Drop(number), p.m.drop(number)
	if got != want {
		p.t.Fatalf("Drop(%d) = %d; want %d", number, got, want)
	}
	alike(p.t, fmt.Sprintf("behind Drop(%d)", number), p.n, p.m)
	return got
}

func (p *pair) double(number int) (int, api.Errno) {
	p.t.Helper()
	got, e := p.n.Double(number)
	want, f := p.m.double(number)
	if got != want || e != f {
		p.t.Fatalf("Double(%d) = %d, %d; want %d, %d", number, got, e, want, f)
	}
	alike(p.t, fmt.Sprintf("behind Double(%d)", number), p.n, p.m)
	return got, e
}

func (p *pair) copy() *pair {
	p.t.Helper()
	c := &pair{p.t, p.n.Copy(), p.m.copy()}
	alike(p.t, "a copy", c.n, c.m)
	return c
}

// fill sends till so many are on their way.
func (p *pair) fill(count int) {
	p.t.Helper()
	for p.m.count() < count {
		_, e := p.send(p.m.count(), 7, fmt.Sprint("body ", p.m.count()))
		is(p.t, "Send", e, api.OK)
	}
}

// is asks for an error.
func is(t *testing.T, what string, got, want api.Errno) {
	t.Helper()
	if got != want {
		t.Fatalf("%s: %d; want %d", what, got, want)
	}
}

// numbered asks for a number and no error.
func numbered(t *testing.T, what string, want int) func(int, api.Errno) {
	return func(got int, e api.Errno) {
		t.Helper()
		if got != want || e != api.OK {
			t.Fatalf("%s = %d, %d; want %d", what, got, e, want)
		}
	}
}

// refused asks for an error and no number beside it.
func refused(t *testing.T, what string, want api.Errno) func(int, api.Errno) {
	return func(got int, e api.Errno) {
		t.Helper()
		if got != 0 || e != want {
			t.Fatalf("%s = %d, %d; want 0, %d", what, got, e, want)
		}
	}
}

// holds asks for the numbers on their way, in List's order.
func holds(t *testing.T, n *net.Net, want ...int) {
	t.Helper()
	var got []int
	for _, p := range n.List() {
		got = append(got, p.Number)
	}
	if !slices.Equal(got, want) {
		t.Fatalf("List() has %v; want %v", got, want)
	}
}

// comes asks for a packet that is delivered.
func comes(t *testing.T, n *net.Net, number, from, to int, body string) {
	t.Helper()
	p, e := n.Deliver(number)
	if e != api.OK || !same(p, api.Packet{Number: number, From: from, To: to, Body: []byte(body)}) {
		t.Fatalf("Deliver(%d) = %s, %d", number, brief([]api.Packet{p}), e)
	}
}

// none asks that no call finds a packet of that number.
func none(t *testing.T, n *net.Net, number int, want api.Errno) {
	t.Helper()
	if p, e := n.Deliver(number); e != want || !isZero(p) {
		t.Fatalf("Deliver(%d) = %s, %d; want nothing, %d", number, brief([]api.Packet{p}), e, want)
	}
	is(t, fmt.Sprintf("Drop(%d)", number), n.Drop(number), want)
	refused(t, fmt.Sprintf("Double(%d)", number), want)(n.Double(number))
}

// orders are all orders of the numbers 1 to n.
func orders(n int) [][]int {
	if n == 0 {
		return [][]int{nil}
	}
	var all [][]int
	for _, o := range orders(n - 1) {
		for at := range n {
			all = append(all, slices.Insert(slices.Clone(o), at, n))
		}
	}
	return all
}

// P8.1 to P8.3: the chapter's example.
func TestExample(t *testing.T) {
	n := net.New()
	numbered(t, "Send", 1)(n.Send(1, 2, []byte("a")))
	numbered(t, "Send", 2)(n.Send(2, 1, []byte("b")))
	numbered(t, "Double", 3)(n.Double(1))
	holds(t, n, 1, 2, 3)
	comes(t, n, 3, 1, 2, "a")
	none(t, n, 3, api.ErrPacket)
	is(t, "Drop(1)", n.Drop(1), api.OK)
	holds(t, n, 2)
	numbered(t, "Send", 4)(n.Send(1, 1, nil))
	holds(t, n, 2, 4)
}

// P8.1: a new net has no packets, and numbers of its own, whatever other nets have sent.
func TestNew(t *testing.T) {
	other := begin(t)
	other.fill(5)
	n := net.New()
	if l := n.List(); len(l) != 0 {
		t.Fatal(brief(l))
	}
	none(t, n, 1, api.ErrPacket)
	numbered(t, "Send", 1)(n.Send(3, 4, []byte("x")))
	holds(t, n, 1)
	holds(t, other.n, 1, 2, 3, 4, 5)
	numbered(t, "Send", 6)(other.n.Send(3, 4, nil))
	holds(t, net.New())
}

// P8.1: List tells whole packets, and changes nothing.
func TestListTellsAll(t *testing.T) {
	n := net.New()
	n.Send(5, -6, []byte{0, 0xff, 0})
	n.Send(0, 0, nil)
	n.Double(1)
	want := []api.Packet{
		{Number: 1, From: 5, To: -6, Body: []byte{0, 0xff, 0}},
		{Number: 2},
		{Number: 3, From: 5, To: -6, Body: []byte{0, 0xff, 0}},
	}
	for range 3 {
		if l := n.List(); !slices.EqualFunc(l, want, same) {
			t.Fatal(brief(l))
		}
	}
	comes(t, n, 3, 5, -6, "\x00\xff\x00")
	numbered(t, "Send", 4)(n.Send(0, 0, nil))
}

// P8.1, P8.3: packets that go in every order, and those that are left, told by rising numbers.
func TestListInOrder(t *testing.T) {
	for _, order := range orders(5) {
		p := begin(t)
		p.fill(5)
		for i, number := range order {
			if i%2 == 0 {
				p.deliver(number)
			} else {
				is(t, "Drop", p.drop(number), api.OK)
			}
			none(t, p.n, number, api.ErrPacket)
		}
		holds(t, p.n)
		if l := p.n.List(); len(l) != 0 {
			t.Fatal(brief(l))
		}
	}
}

// P8.1: a full net is told by rising numbers each time, with gaps and later packets too.
func TestListOfMany(t *testing.T) {
	p := begin(t)
	p.fill(mostPackets)
	for number := 1; number < mostPackets; number += 3 {
		p.drop(number)
	}
	p.fill(mostPackets)
	for range 20 {
		l := p.n.List()
		if len(l) != mostPackets {
			t.Fatal(len(l))
		}
		for i := 1; i < len(l); i++ {
			if l[i-1].Number >= l[i].Number {
				t.Fatalf("%d ahead of %d", l[i-1].Number, l[i].Number)
			}
		}
	}
}

// P8.2, P8.4: bodies of no bytes, of some and of as many as may be come as they were sent; one byte more is refused, and takes no number.
func TestBodies(t *testing.T) {
	p := begin(t)
	numbered(t, "Send of none", 1)(p.n.Send(1, 2, nil))
	p.m.send(1, 2, "")
	numbered(t, "Send of no bytes", 2)(p.n.Send(1, 2, []byte{}))
	p.m.send(1, 2, "")
	alike(t, "no bytes", p.n, p.m)
	for _, size := range []int{1, 2, 255, 256, mostBytes - 1, mostBytes} {
		body := make([]byte, size)
		for i := range body {
			body[i] = byte(i*7 + i>>8)
		}
		number, e := p.send(3, 4, string(body))
		is(t, fmt.Sprint("Send of ", size), e, api.OK)
		doubled, e := p.double(number)
		is(t, fmt.Sprint("Double of ", size), e, api.OK)
		comes(t, p.n.Copy(), doubled, 3, 4, string(body))
		p.deliver(number)
	}
	for _, size := range []int{mostBytes + 1, mostBytes + 2, 2 * mostBytes, 1 << 20} {
		refused(t, fmt.Sprint("Send of ", size), api.ErrLong)(p.n.Send(3, 4, make([]byte, size)))
		alike(t, fmt.Sprint("refused ", size), p.n, p.m)
	}
	numbered(t, "the next", 15)(p.n.Send(3, 4, nil))
	comes(t, p.n, 1, 1, 2, "")
	comes(t, p.n, 2, 1, 2, "")
}

// P8.2, P8.4: all bytes may stand in a body.
func TestAllBytes(t *testing.T) {
	n := net.New()
	for b := range 256 {
		numbered(t, "Send", b+1)(n.Send(b, -b, []byte{byte(b), 0, byte(255 - b)}))
	}
	for b := range 256 {
		comes(t, n, b+1, b, -b, string([]byte{byte(b), 0, byte(255 - b)}))
	}
}

// P8.2, P8.4: nothing is asked of senders and receivers: below 0, far away, the same.
func TestAnyEnds(t *testing.T) {
	ends := []int{0, 1, -1, -2, 100, 1000, math.MinInt, math.MaxInt, math.MinInt32, 1 << 40}
	p := begin(t)
	for _, from := range ends {
		for _, to := range ends {
			number, e := p.send(from, to, "x")
			is(t, fmt.Sprintf("Send(%d, %d)", from, to), e, api.OK)
			doubled, e := p.double(number)
			is(t, "Double", e, api.OK)
			comes(t, p.n.Copy(), doubled, from, to, "x")
			p.drop(doubled)
			got, e := p.deliver(number)
			if e != api.OK || got.From != from || got.To != to {
				t.Fatalf("%s, %d; want %d>%d", brief([]api.Packet{got}), e, from, to)
			}
		}
	}
}

// P8.2: 256 packets on their way, and one more by Send; room again behind a Deliver and behind a Drop, for one each.
func TestFullBySend(t *testing.T) {
	n := net.New()
	for i := range mostPackets {
		numbered(t, "Send", i+1)(n.Send(i, 1, []byte{byte(i)}))
	}
	for range 3 {
		refused(t, "one more", api.ErrFull)(n.Send(1, 1, []byte("x")))
		refused(t, "one more without bytes", api.ErrFull)(n.Send(1, 1, nil))
	}
	if l := n.List(); len(l) != mostPackets || l[0].Number != 1 || l[255].Number != 256 {
		t.Fatal(brief(l))
	}
	comes(t, n, 100, 99, 1, "\x63")
	numbered(t, "behind a Deliver", 257)(n.Send(1, 1, nil))
	refused(t, "one more behind it", api.ErrFull)(n.Send(1, 1, nil))
	is(t, "Drop", n.Drop(257), api.OK)
	numbered(t, "behind a Drop", 258)(n.Send(2, 1, nil))
	refused(t, "one more behind it", api.ErrFull)(n.Send(1, 1, nil))
	none(t, n, 100, api.ErrPacket)
	none(t, n, 257, api.ErrPacket)
	refused(t, "what was refused took no room", api.ErrFull)(n.Send(1, 1, nil))
	for number := 1; number <= 258; number++ {
		n.Drop(number)
	}
	holds(t, n)
	for i := range mostPackets {
		numbered(t, "all anew", 259+i)(n.Send(1, 1, nil))
	}
	refused(t, "one more", api.ErrFull)(n.Send(1, 1, nil))
}

// P8.3: 256 packets on their way, and one more by Double; room again behind a Deliver and behind a Drop.
func TestFullByDouble(t *testing.T) {
	n := net.New()
	numbered(t, "Send", 1)(n.Send(8, 9, []byte("one")))
	for i := range mostPackets - 1 {
		numbered(t, "Double", i+2)(n.Double(i/2 + 1))
	}
	for _, number := range []int{1, 2, 128, 256} {
		refused(t, "one more", api.ErrFull)(n.Double(number))
	}
	refused(t, "one more by Send", api.ErrFull)(n.Send(8, 9, nil))
	if l := n.List(); len(l) != mostPackets || l[255].Number != 256 {
		t.Fatal(brief(l))
	}
	comes(t, n, 1, 8, 9, "one")
	numbered(t, "behind a Deliver", 257)(n.Double(256))
	refused(t, "one more behind it", api.ErrFull)(n.Double(256))
	is(t, "Drop", n.Drop(2), api.OK)
	numbered(t, "behind a Drop", 258)(n.Double(257))
	refused(t, "one more behind it", api.ErrFull)(n.Double(258))
	for number := 3; number <= 258; number++ {
		comes(t, n, number, 8, 9, "one")
	}
	holds(t, n)
}

// P8.2, P8.3: one below the bound there is room, for a Send and for a Double.
func TestLastRoom(t *testing.T) {
	p := begin(t)
	p.fill(mostPackets - 1)
	c := p.copy()
	p.double(17)
	c.send(1, 2, "last")
	for _, x := range []*pair{p, c} {
		x.send(1, 2, "too many")
		x.double(1)
		if got := x.m.count(); got != mostPackets || len(x.n.List()) != got {
			t.Fatal(got, len(x.n.List()))
		}
	}
}

// P8.3: numbers of which none is on its way, for each call: 0, below, never sent, delivered, dropped; nothing has changed beside the error.
func TestNoPacket(t *testing.T) {
	p := begin(t)
	never := []int{0, -1, -2, 1, 2, math.MinInt, math.MaxInt}
	for _, number := range never {
		none(t, p.n, number, api.ErrPacket)
	}
	p.fill(4)
	p.deliver(2)
	p.drop(3)
	for _, number := range []int{0, -1, -4, 2, 3, 5, 6, 257, math.MinInt, math.MaxInt, 1 << 32, 1<<32 + 1, 1<<32 + 4} {
		none(t, p.n, number, api.ErrPacket)
		alike(t, fmt.Sprint("behind ", number), p.n, p.m)
	}
	holds(t, p.n, 1, 4)
	numbered(t, "the next", 5)(p.n.Double(4))
	none(t, p.n, 6, api.ErrPacket)
	p.n.Drop(5)
	numbered(t, "the next", 6)(p.n.Send(1, 1, nil))
	none(t, p.n, 5, api.ErrPacket)
}

// P8.3, P8.4: a packet, its double, the double's double and a second double of the first: each is delivered or dropped apart, in every order.
func TestDoubles(t *testing.T) {
	for _, order := range orders(4) {
		for drops := range 16 {
			n := net.New()
			numbered(t, "Send", 1)(n.Send(-3, 4, []byte("body")))
			numbered(t, "Double(1)", 2)(n.Double(1))
			numbered(t, "Double(2)", 3)(n.Double(2))
			numbered(t, "Double(1) again", 4)(n.Double(1))
			holds(t, n, 1, 2, 3, 4)
			left := []int{1, 2, 3, 4}
			for i, number := range order {
				if drops>>i&1 == 1 {
					is(t, "Drop", n.Drop(number), api.OK)
				} else {
					comes(t, n, number, -3, 4, "body")
				}
				none(t, n, number, api.ErrPacket)
				left = slices.DeleteFunc(left, func(x int) bool { return x == number })
				holds(t, n, left...)
			}
			numbered(t, "the next", 5)(n.Send(1, 1, nil))
		}
	}
}

// P8.3: a double outlives the one that it came of, and can be doubled itself.
func TestDoubleOutlives(t *testing.T) {
	n := net.New()
	n.Send(1, 2, []byte("first"))
	n.Send(3, 4, []byte("second"))
	numbered(t, "Double(1)", 3)(n.Double(1))
	comes(t, n, 1, 1, 2, "first")
	numbered(t, "Double(3)", 4)(n.Double(3))
	is(t, "Drop(3)", n.Drop(3), api.OK)
	numbered(t, "Double(4)", 5)(n.Double(4))
	holds(t, n, 2, 4, 5)
	comes(t, n, 5, 1, 2, "first")
	comes(t, n, 4, 1, 2, "first")
	comes(t, n, 2, 3, 4, "second")
	holds(t, n)
}

// P8.2, P8.4: numbers go on and never come twice, in a net whose packets are all gone, too.
func TestNumbersGoOn(t *testing.T) {
	n := net.New()
	last := 0
	for round := range 300 {
		numbered(t, "Send", last+1)(n.Send(round, round, nil))
		numbered(t, "Double", last+2)(n.Double(last + 1))
		refused(t, "Send of too much", api.ErrLong)(n.Send(1, 1, make([]byte, mostBytes+1)))
		refused(t, "Double of none", api.ErrPacket)(n.Double(last + 3))
		none(t, n, last, api.ErrPacket)
		last += 2
		if round%2 == 0 {
			is(t, "Drop", n.Drop(last), api.OK)
			comes(t, n, last-1, round, round, "")
		} else {
			comes(t, n, last, round, round, "")
			is(t, "Drop", n.Drop(last-1), api.OK)
		}
		holds(t, n)
	}
}

// P8.2, P8.3, R2: each error counts ahead of the ones behind it in its call's order.
func TestErrorsInOrder(t *testing.T) {
	long := make([]byte, mostBytes+1)
	p := begin(t)
	p.fill(mostPackets)
	refused(t, "too long for a full net", api.ErrLong)(p.n.Send(1, 1, long))
	refused(t, "a full net", api.ErrFull)(p.n.Send(1, 1, long[:mostBytes]))
	for _, number := range []int{0, -1, mostPackets + 1, math.MaxInt, math.MinInt} {
		refused(t, "Double of none in a full net", api.ErrPacket)(p.n.Double(number))
	}
	refused(t, "Double in a full net", api.ErrFull)(p.n.Double(1))
	alike(t, "refused", p.n, p.m)
	p.deliver(9)
	p.drop(10)
	p.fill(mostPackets)
	refused(t, "Double of a delivered one in a full net", api.ErrPacket)(p.n.Double(9))
	refused(t, "Double of a dropped one in a full net", api.ErrPacket)(p.n.Double(10))
	alike(t, "refused", p.n, p.m)
	var no *net.Net
	refused(t, "too long for none", api.ErrNil)(no.Send(1, 1, long))
	refused(t, "too long for one that was not made", api.ErrNil)(new(net.Net).Send(1, 1, long))
}

// P8.1 to P8.3, R5: a net that is none, and one that New and Copy did not answer.
func TestNoNet(t *testing.T) {
	var declared net.Net
	for name, n := range map[string]*net.Net{"none": nil, "unmade": new(net.Net), "literal": {}, "declared": &declared} {
		for range 2 {
			refused(t, name+" Send", api.ErrNil)(n.Send(1, 2, []byte("a")))
			refused(t, name+" Send of none", api.ErrNil)(n.Send(-1, 0, nil))
			for _, number := range []int{0, -1, 1, 2, math.MinInt, math.MaxInt} {
				none(t, n, number, api.ErrNil)
			}
			if l := n.List(); len(l) != 0 {
				t.Error(name, brief(l))
			}
			if n.Copy() != nil {
				t.Error(name, "has a copy")
			}
		}
	}
}

// P8.1: a copy has the net's packets and its next number, and both go their own way.
func TestCopyApart(t *testing.T) {
	p := begin(t)
	p.fill(4)
	p.deliver(2)
	p.drop(4)
	c := p.copy()
	numbered(t, "the net's next", 5)(p.send(1, 1, "net's"))
	numbered(t, "the copy's next", 5)(c.send(2, 2, "copy's"))
	numbered(t, "the copy's double", 6)(c.double(1))
	alike(t, "the net behind its copy's calls", p.n, p.m)
	p.deliver(1)
	alike(t, "the copy behind the net's Deliver", c.n, c.m)
	c.drop(3)
	alike(t, "the net behind the copy's Drop", p.n, p.m)
	numbered(t, "the net's double", 6)(p.double(5))
	third := c.copy()
	c.drop(5)
	c.drop(6)
	third.send(3, 3, "third's")
	p.deliver(3)
	for _, x := range []*pair{p, c, third} {
		alike(t, "each", x.n, x.m)
	}
	comes(t, third.n, 6, 0, 7, "body 0")
	comes(t, third.n, 5, 2, 2, "copy's")
	comes(t, p.n, 6, 1, 1, "net's")
}

// P8.1, P8.4: a copy of a net without packets is a net; its numbers go on where the net's would.
func TestCopyOfNoPackets(t *testing.T) {
	n := net.New()
	numbered(t, "a new net's copy", 1)(n.Copy().Send(1, 2, nil))
	n.Send(1, 2, nil)
	n.Double(1)
	n.Drop(1)
	n.Deliver(2)
	c := n.Copy()
	holds(t, c)
	none(t, c, 1, api.ErrPacket)
	numbered(t, "the copy's next", 3)(c.Send(1, 2, []byte("c")))
	holds(t, n)
	numbered(t, "the net's next", 3)(n.Send(1, 2, []byte("n")))
	comes(t, c, 3, 1, 2, "c")
	comes(t, n, 3, 1, 2, "n")
}

// P8.1, P8.2: a full net's copy is full, and room in one of both is no room in the other.
func TestCopyOfFull(t *testing.T) {
	p := begin(t)
	p.fill(mostPackets)
	c := p.copy()
	refused(t, "the copy", api.ErrFull)(c.n.Send(1, 1, nil))
	p.drop(1)
	refused(t, "the copy", api.ErrFull)(c.n.Send(1, 1, nil))
	refused(t, "the copy", api.ErrFull)(c.n.Double(1))
	numbered(t, "the net", 257)(p.double(2))
	c.deliver(256)
	refused(t, "the net", api.ErrFull)(p.n.Send(1, 1, nil))
	numbered(t, "the copy", 257)(c.send(1, 1, ""))
}

// spoil overwrites b and its spare room.
func spoil(b []byte) {
	b = b[:cap(b)]
	for i := range b {
		b[i] ^= 0x5a
	}
}

// spoilAll overwrites packets, their bodies and all spare room.
func spoilAll(l []api.Packet) {
	for _, p := range l {
		spoil(p.Body)
	}
	l = l[:cap(l)]
	for i := range l {
		l[i] = api.Packet{Number: -7, From: -7, To: -7, Body: []byte("spoilt")}
	}
}

// R3: what is sent is neither changed nor kept, its spare room neither.
func TestSendKeepsNothing(t *testing.T) {
	n := net.New()
	room := []byte("abcdefghij")
	before := slices.Clone(room)
	n.Send(1, 2, room[:3])
	n.Send(1, 2, room[3:5])
	n.Send(1, 2, room[:0])
	n.Double(1)
	c := n.Copy()
	spoil(c.List()[0].Body)
	got, _ := c.Deliver(2)
	spoil(got.Body)
	if !bytes.Equal(room, before) {
		t.Fatalf("%q", room)
	}
	spoil(room)
	for _, x := range []*net.Net{n.Copy(), n} {
		comes(t, x, 4, 1, 2, "abc")
		comes(t, x, 1, 1, 2, "abc")
		comes(t, x, 2, 1, 2, "de")
		comes(t, x, 3, 1, 2, "")
	}
	comes(t, c, 1, 1, 2, "abc")
}

// R3: one that is refused changes nothing of what was handed in, either.
func TestRefusedKeepsNothing(t *testing.T) {
	p := begin(t)
	p.fill(mostPackets)
	long := bytes.Repeat([]byte("ab"), mostBytes)
	p.n.Send(1, 1, long[:mostBytes+1])
	p.n.Send(1, 1, long[:mostBytes])
	if !bytes.Equal(long, bytes.Repeat([]byte("ab"), mostBytes)) {
		t.Fatal("changed")
	}
	spoil(long)
	alike(t, "behind it", p.n, p.m)
}

// R3: lists are new: overwritten, with bodies and spare room, one changes neither the net, nor its copy, nor another answer; nor do doubles in one list share memory.
func TestListsApart(t *testing.T) {
	p := begin(t)
	p.fill(3)
	p.double(1)
	p.double(4)
	c := p.copy()
	first, second := p.n.List(), p.n.List()
	spoilAll(first)
	if !slices.EqualFunc(second, p.m.list(), same) {
		t.Fatal(brief(second))
	}
	spoilAll(c.n.List())
	alike(t, "the net", p.n, p.m)
	alike(t, "the copy", c.n, c.m)
	for i := range second {
		l := p.n.List()
		spoil(l[i].Body)
		l[i] = p.m.list()[i]
		if !slices.EqualFunc(l, p.m.list(), same) {
			t.Fatalf("body %d shares memory: %s", i, brief(l))
		}
	}
	kept := c.m.list()
	for number := 1; number <= 5; number++ {
		p.deliver(number)
	}
	p.fill(7)
	if !slices.EqualFunc(second, kept, same) {
		t.Fatal("changed by what came behind:", brief(second))
	}
}

// R3: a delivered body is new: overwritten, it changes neither its doubles, nor a copy's packet, nor a list.
func TestDeliveredApart(t *testing.T) {
	p := begin(t)
	p.send(1, 2, "body")
	p.double(1)
	p.double(2)
	c := p.copy()
	list := p.n.List()
	got, _ := p.deliver(2)
	spoil(got.Body)
	alike(t, "the net", p.n, p.m)
	alike(t, "the copy", c.n, c.m)
	if !slices.EqualFunc(list, c.m.list(), same) {
		t.Fatal(brief(list))
	}
	fromNet, _ := p.deliver(1)
	fromCopy, _ := c.deliver(1)
	spoil(fromNet.Body)
	if string(fromCopy.Body) != "body" {
		t.Fatalf("%q", fromCopy.Body)
	}
	spoilAll(list)
	comes(t, p.n, 3, 1, 2, "body")
	comes(t, c.n, 2, 1, 2, "body")
	comes(t, c.n, 3, 1, 2, "body")
}

// dice: numbers that look like no order, the same in each run.
type dice uint64

func (d *dice) below(n int) int {
	*d = *d*6364136223846793005 + 1442695040888963407
	return int(uint64(*d)>>33) % n
}

// number is mostly one that was given, now and then one that was not.
func (d *dice) number(m *model) int {
	return d.below(len(m.all)+4) - 1
}

// P8.1 to P8.4: long scripts of all calls, held against the model behind each call; now and then one goes on with a copy.
func TestScripts(t *testing.T) {
	for seed := range 60 {
		p, roll := begin(t), dice(seed)
		for i := range 300 {
			switch roll.below(12) {
			case 0, 1, 2, 3:
				p.send(roll.below(9)-4, roll.below(9)-4, "abcdefghij"[:roll.below(6)]+fmt.Sprint(i))
			case 4, 5:
				p.double(roll.number(p.m))
			case 6, 7, 8:
				p.deliver(roll.number(p.m))
			case 9, 10:
				p.drop(roll.number(p.m))
			default:
				old := p
				p = p.copy()
				old.send(1, 1, "lost")
				old.drop(roll.number(old.m))
				old.double(roll.number(old.m))
				old.deliver(len(old.m.all))
				alike(t, "the one that goes on", p.n, p.m)
			}
		}
	}
}

// P8.2 to P8.4: scripts about the bound: more is sent and doubled than goes, till the net is full, again and again.
func TestScriptsWhenFull(t *testing.T) {
	for seed := range 6 {
		p, roll, full := begin(t), dice(seed), 0
		p.fill(mostPackets - 10)
		for i := range 200 {
			e := api.OK
			switch roll.below(5) {
			case 0, 1:
				_, e = p.send(i, -i, fmt.Sprint(i))
			case 2:
				_, e = p.double(p.m.list()[roll.below(p.m.count())].Number)
			case 3:
				p.deliver(p.m.list()[roll.below(p.m.count())].Number)
			default:
				p.drop(roll.number(p.m))
			}
			if e == api.ErrFull {
				full++
			}
		}
		if full == 0 {
			t.Fatal("never full: the script is wrong")
		}
	}
}

// P8.4: what is delivered was sent; of each body so many come as were sent and doubled, less those that were dropped; what is neither dropped nor doubled comes once; no number comes twice.
func TestWhatFollows(t *testing.T) {
	for seed := range 40 {
		n, roll := net.New(), dice(seed)
		due, come := map[string]int{}, map[string]int{}
		given := map[int]bool{}
		take := func(number int) {
			p, e := n.Deliver(number)
			if e != api.OK || p.Number != number || string(p.Body) != fmt.Sprint(p.From, " to ", p.To) {
				t.Fatal(brief([]api.Packet{p}), e)
			}
			none(t, n, number, api.ErrPacket)
			come[string(p.Body)]++
		}
		give := func(number int, e api.Errno, body string) {
			if e != api.OK || given[number] {
				t.Fatalf("number %d, %d", number, e)
			}
			given[number] = true
			due[body]++
		}
		for i := range 200 {
			body := fmt.Sprint(i, " to ", -i)
			number, e := n.Send(i, -i, []byte(body))
			give(number, e, body)
			l := n.List()
			p := l[roll.below(len(l))]
			switch roll.below(4) {
			case 0:
				number, e = n.Double(p.Number)
				give(number, e, string(p.Body))
			case 1:
				is(t, "Drop", n.Drop(p.Number), api.OK)
				due[string(p.Body)]--
			case 2:
				take(p.Number)
			}
			for len(n.List()) > 100 {
				l = n.List()
				take(l[roll.below(len(l))].Number)
			}
		}
		for l := n.List(); len(l) > 0; l = n.List() {
			take(l[roll.below(len(l))].Number)
		}
		for body, count := range due {
			if come[body] != count {
				t.Fatalf("%q came %d times; want %d", body, come[body], count)
			}
		}
	}
}
