package session_test

import (
	"bytes"
	"fmt"
	"maps"
	"math"
	"slices"
	"testing"
	"unsafe"

	"muster/api"
	"muster/session"
)

const (
	most        = 1 << 62
	mostClients = 16
	window      = 8
	mostBytes   = 65536
)

// wrongNumbers are none of an id and none of a request.
var wrongNumbers = []int{0, -1, -2, most + 1, most + 2, -most, math.MaxInt, math.MinInt, math.MinInt + 1}

// replyTo is the reply that tests keep for a request.
func replyTo(id, request int) string {
	return fmt.Sprintf("reply %d.%d", id, request)
}

// client is one that keeps replies to these requests.
func client(id, floor int, requests ...int) api.Client {
	c := api.Client{Id: id, Floor: floor}
	for _, r := range requests {
		c.Kept = append(c.Kept, api.Kept{Request: r, Reply: []byte(replyTo(id, r))})
	}
	return c
}

// clients are so many, with the ids 10, 20 ..
func clients(count int) []api.Client {
	var l []api.Client
	for i := range count {
		l = append(l, client((i+1)*10, i, i+1, i+5))
	}
	return l
}

// upTo are the numbers from low to high.
func upTo(low, high int) []int {
	var l []int
	for n := low; n <= high; n++ {
		l = append(l, n)
	}
	return l
}

func sameKept(a, b api.Kept) bool {
	return a.Request == b.Request && bytes.Equal(a.Reply, b.Reply)
}

func sameClient(a, b api.Client) bool {
	return a.Id == b.Id && a.Floor == b.Floor && slices.EqualFunc(a.Kept, b.Kept, sameKept)
}

func sameClients(a, b []api.Client) bool {
	return slices.EqualFunc(a, b, sameClient)
}

func sameWait(a, b api.Wait) bool {
	return a.Request == b.Request && bytes.Equal(a.Body, b.Body)
}

func sameAsker(a, b api.Asker) bool {
	return a.Id == b.Id && a.Next == b.Next && a.Acked == b.Acked && slices.EqualFunc(a.Waits, b.Waits, sameWait)
}

// brief names clients without replies that fill a page.
func brief(l []api.Client) string {
	s := fmt.Sprint(len(l), " clients")
	for _, c := range l {
		s += fmt.Sprintf(" %d^%d", c.Id, c.Floor)
		for _, k := range c.Kept {
			s += fmt.Sprintf(" %d:%.20q", k.Request, k.Reply)
		}
	}
	return s
}

func briefAsker(a api.Asker) string {
	s := fmt.Sprintf("%d next %d acked %d", a.Id, a.Next, a.Acked)
	for _, w := range a.Waits {
		s += fmt.Sprintf(" %d:%.20q", w.Request, w.Body)
	}
	return s
}

// cloneClients is l once more, apart from it.
func cloneClients(l []api.Client) []api.Client {
	l = slices.Clone(l)
	for i := range l {
		l[i].Kept = slices.Clone(l[i].Kept)
		for j := range l[i].Kept {
			l[i].Kept[j].Reply = bytes.Clone(l[i].Kept[j].Reply)
		}
	}
	return l
}

// cloneAsker is a once more, apart from it.
func cloneAsker(a api.Asker) api.Asker {
	a.Waits = slices.Clone(a.Waits)
	for i := range a.Waits {
		a.Waits[i].Body = bytes.Clone(a.Waits[i].Body)
	}
	return a
}

// span is where a list lies in memory, with its spare room.
type span struct {
	from, to uintptr
}

func spanOf[T any](l []T) []span {
	if cap(l) == 0 {
		return nil
	}
	from := uintptr(unsafe.Pointer(unsafe.SliceData(l)))
	return []span{{from, from + uintptr(cap(l))*unsafe.Sizeof(l[:1][0])}}
}

func spansOfClients(l []api.Client) []span {
	all := spanOf(l)
	for _, c := range l[:cap(l)] {
		all = append(all, spanOf(c.Kept)...)
		for _, k := range c.Kept[:cap(c.Kept)] {
			all = append(all, spanOf(k.Reply)...)
		}
	}
	return all
}

func spansOfAsker(a api.Asker) []span {
	all := spanOf(a.Waits)
	for _, w := range a.Waits[:cap(a.Waits)] {
		all = append(all, spanOf(w.Body)...)
	}
	return all
}

// apart asks that no two of the spans meet.
func apart(t *testing.T, what string, spans ...[]span) {
	t.Helper()
	all := slices.Concat(spans...)
	for i, a := range all {
		for _, b := range all[:i] {
			if a.from < b.to && b.from < a.to {
				t.Fatalf("%s: lists %v and %v share memory", what, a, b)
			}
		}
	}
}

// entry is what the model knows of a client.
type entry struct {
	floor int
	kept  map[int]string
}

// model is the chapter's server told again in the plainest way: clients by their ids, replies by their requests.
type model map[int]entry

func modelOf(l []api.Client) model {
	m := model{}
	for _, c := range l {
		e := entry{c.Floor, map[int]string{}}
		for _, k := range c.Kept {
			e.kept[k.Request] = string(k.Reply)
		}
		m[c.Id] = e
	}
	return m
}

func (m model) list() []api.Client {
	var l []api.Client
	for _, id := range slices.Sorted(maps.Keys(m)) {
		c := api.Client{Id: id, Floor: m[id].floor}
		for _, r := range slices.Sorted(maps.Keys(m[id].kept)) {
			c.Kept = append(c.Kept, api.Kept{Request: r, Reply: []byte(m[id].kept[r])})
		}
		l = append(l, c)
	}
	return l
}

// look changes m as the chapter's Look does, if that has no error.
func (m model) look(id, request, acked int) (api.Verdict, string, api.Errno) {
	if id < 1 || id > most || request < 1 || request > most || acked < 0 || acked >= request {
		return 0, "", api.ErrArg
	}
	e, known := m[id]
	if !known {
		if len(m) == mostClients {
			return 0, "", api.ErrFull
		}
		e = entry{0, map[int]string{}}
	}
	if acked > e.floor {
		e.floor = acked
		for r := range e.kept {
			if r <= acked {
				delete(e.kept, r)
			}
		}
	}
	m[id] = e
	if request <= e.floor {
		return api.VerdictStale, "", api.OK
	}
	if reply, ok := e.kept[request]; ok {
		return api.VerdictOld, reply, api.OK
	}
	if len(e.kept) == window {
		return api.VerdictBusy, "", api.OK
	}
	return api.VerdictNew, "", api.OK
}

// done changes m as the chapter's Done does, if that has no error.
func (m model) done(id, request int, reply string) api.Errno {
	e, known := m[id]
	if !known || request <= e.floor || request > most {
		return api.ErrArg
	}
	if _, ok := e.kept[request]; ok {
		return api.ErrArg
	}
	if len(reply) > mostBytes {
		return api.ErrLong
	}
	if len(e.kept) == window {
		return api.ErrFull
	}
	e.kept[request] = reply
	return api.OK
}

// look calls Look of right clients, holds all that it tells against the model, and is the clients and the verdict.
func look(t *testing.T, l []api.Client, id, request, acked int) ([]api.Client, api.Verdict) {
	t.Helper()
	what := fmt.Sprintf("Look(%s, %d, %d, %d)", brief(l), id, request, acked)
	before, m := cloneClients(l), modelOf(l)
	got, v, reply, e := session.Look(l, id, request, acked)
	wantV, wantReply, wantE := m.look(id, request, acked)
	if v != wantV || string(reply) != wantReply || e != wantE {
		t.Fatalf("%s = %d, %.20q, %d; want %d, %.20q, %d", what, v, reply, e, wantV, wantReply, wantE)
	}
	if e != api.OK {
		if len(got) > 0 {
			t.Fatalf("%s: clients beside an error: %s", what, brief(got))
		}
		return l, 0
	}
	if !sameClients(got, m.list()) {
		t.Fatalf("%s: %s; want %s", what, brief(got), brief(m.list()))
	}
	if !session.Right(got) {
		t.Fatalf("%s: not right: %s", what, brief(got))
	}
	if !sameClients(l, before) {
		t.Fatalf("%s: changed: %s", what, brief(l))
	}
	apart(t, what, spansOfClients(l), spansOfClients(got), spanOf(reply))
	return got, v
}

// done calls Done of right clients, holds all that it tells against the model, and is the clients.
func done(t *testing.T, l []api.Client, id, request int, reply string) ([]api.Client, api.Errno) {
	t.Helper()
	what := fmt.Sprintf("Done(%s, %d, %d, %.20q)", brief(l), id, request, reply)
	before, m, body := cloneClients(l), modelOf(l), []byte(reply)
	got, e := session.Done(l, id, request, body)
	if want := m.done(id, request, reply); e != want {
		t.Fatalf("%s = %d; want %d", what, e, want)
	}
	if e != api.OK {
		if len(got) > 0 {
			t.Fatalf("%s: clients beside an error: %s", what, brief(got))
		}
		return l, e
	}
	if !sameClients(got, m.list()) {
		t.Fatalf("%s: %s; want %s", what, brief(got), brief(m.list()))
	}
	if !session.Right(got) {
		t.Fatalf("%s: not right: %s", what, brief(got))
	}
	if !sameClients(l, before) || string(body) != reply {
		t.Fatalf("%s: changed: %s", what, brief(l))
	}
	apart(t, what, spansOfClients(l), spansOfClients(got), spanOf(body))
	return got, e
}

// lookIs asks for a verdict and, where one is told, a reply; it is the clients.
func lookIs(t *testing.T, l []api.Client, id, request, acked int, want api.Verdict, reply string) []api.Client {
	t.Helper()
	got, v, b, e := session.Look(l, id, request, acked)
	if v != want || string(b) != reply || e != api.OK {
		t.Fatalf("Look(%s, %d, %d, %d) = %d, %.20q, %d; want %d, %.20q", brief(l), id, request, acked, v, b, e, want, reply)
	}
	look(t, l, id, request, acked)
	return got
}

// lookRefused asks for an error of Look, and for nothing beside it.
func lookRefused(t *testing.T, l []api.Client, id, request, acked int, want api.Errno) {
	t.Helper()
	before := cloneClients(l)
	got, v, b, e := session.Look(l, id, request, acked)
	if len(got) != 0 || v != 0 || len(b) != 0 || e != want {
		t.Fatalf("Look(%s, %d, %d, %d) = %s, %d, %.20q, %d; want nothing, %d", brief(l), id, request, acked, brief(got), v, b, e, want)
	}
	if !sameClients(l, before) {
		t.Fatalf("changed: %s", brief(l))
	}
}

// doneIs asks that Done tells no error and these clients.
func doneIs(t *testing.T, l []api.Client, id, request int, reply string, want ...api.Client) []api.Client {
	t.Helper()
	got, e := done(t, l, id, request, reply)
	if e != api.OK || !sameClients(got, want) {
		t.Fatalf("Done(%s, %d, %d) = %s, %d; want %s", brief(l), id, request, brief(got), e, brief(want))
	}
	return got
}

// doneRefused asks for an error of Done, and for nothing beside it.
func doneRefused(t *testing.T, l []api.Client, id, request int, reply []byte, want api.Errno) {
	t.Helper()
	before, b := cloneClients(l), bytes.Clone(reply)
	got, e := session.Done(l, id, request, reply)
	if len(got) != 0 || e != want {
		t.Fatalf("Done(%s, %d, %d, %d bytes) = %s, %d; want nothing, %d", brief(l), id, request, len(reply), brief(got), e, want)
	}
	if !sameClients(l, before) || !bytes.Equal(b, reply) {
		t.Fatalf("changed: %s", brief(l))
	}
}

// dice: numbers that look like no order, the same in each run.
type dice uint64

func (d *dice) below(n int) int {
	*d = *d*6364136223846793005 + 1442695040888963407
	return int(uint64(*d)>>33) % n
}
