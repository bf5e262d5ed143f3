package session_test

import (
	"bytes"
	"slices"
	"testing"

	"muster/api"
	"muster/session"
)

// roomy is b with spare room behind it, which holds something.
func roomy(b string) []byte {
	return append([]byte(b), "spare room"...)[:len(b)]
}

// roomyClients are clients all of whose lists have spare room, which holds something.
func roomyClients() []api.Client {
	var l []api.Client
	for _, c := range []api.Client{client(10, 0, upTo(1, 8)...), client(20, 3, 4, 6, 9), client(30, 0), client(40, 0, 7), client(50, 1, 2)} {
		for i := range c.Kept {
			c.Kept[i].Reply = roomy(string(c.Kept[i].Reply))
		}
		c.Kept = append(c.Kept, api.Kept{Request: 77, Reply: roomy("kept behind")}, api.Kept{Request: 78})[:len(c.Kept)]
		l = append(l, c)
	}
	return l[:4]
}

// roomyAsker is an asker all of whose lists have spare room, which holds something.
func roomyAsker() api.Asker {
	a := asker(4, 9, 2, 3, 5, 6, 8)
	for i := range a.Waits {
		a.Waits[i].Body = roomy(string(a.Waits[i].Body))
	}
	a.Waits = append(a.Waits, api.Wait{Request: 77, Body: roomy("waits behind")}, api.Wait{Request: 78})[:4]
	return a
}

// whole is l with the spare room of its lists, apart from it.
func whole(l []api.Client) []api.Client {
	l = slices.Clone(l[:cap(l)])
	for i := range l {
		l[i].Kept = slices.Clone(l[i].Kept[:cap(l[i].Kept)])
		for j, k := range l[i].Kept {
			l[i].Kept[j].Reply = bytes.Clone(k.Reply[:cap(k.Reply)])
		}
	}
	return l
}

// wholeAsker is a with the spare room of its lists, apart from it.
func wholeAsker(a api.Asker) api.Asker {
	a.Waits = slices.Clone(a.Waits[:cap(a.Waits)])
	for i, w := range a.Waits {
		a.Waits[i].Body = bytes.Clone(w.Body[:cap(w.Body)])
	}
	return a
}

// spoil overwrites b and its spare room.
func spoil(b []byte) {
	b = b[:cap(b)]
	for i := range b {
		b[i] ^= 0x5a
	}
}

// spoilClients overwrites clients, what they keep, and all spare room.
func spoilClients(l []api.Client) {
	l = l[:cap(l)]
	for i, c := range l {
		for j, k := range c.Kept[:cap(c.Kept)] {
			spoil(k.Reply)
			c.Kept[:cap(c.Kept)][j] = api.Kept{Request: -7, Reply: []byte("spoilt")}
		}
		l[i] = api.Client{Id: -7, Floor: -7}
	}
}

// spoilAsker overwrites what waits, and all spare room.
func spoilAsker(a api.Asker) {
	waits := a.Waits[:cap(a.Waits)]
	for i, w := range waits {
		spoil(w.Body)
		waits[i] = api.Wait{Request: -7, Body: []byte("spoilt")}
	}
}

// lookCalls are calls of Look that let go, put in between, tell a reply, or change nothing.
var lookCalls = []struct {
	id, request, acked int
	want               api.Verdict
}{
	{10, 3, 0, api.VerdictOld}, {10, 8, 7, api.VerdictOld}, {10, 9, 0, api.VerdictBusy}, {10, 9, 4, api.VerdictNew}, {10, 20, 19, api.VerdictNew},
	{20, 1, 0, api.VerdictStale}, {20, 6, 4, api.VerdictOld}, {20, 7, 6, api.VerdictNew}, {30, 1, 0, api.VerdictNew}, {40, 7, 0, api.VerdictOld},
	{1, 1, 0, api.VerdictNew}, {25, 5, 4, api.VerdictNew}, {60, 1, 0, api.VerdictNew},
}

// R3: Look changes nothing of what it is handed, its spare room neither, keeps nothing of it, and what it tells is new, the reply apart from the clients.
func TestLookApart(t *testing.T) {
	for _, c := range lookCalls {
		l := roomyClients()
		before := whole(l)
		got, v, reply, e := session.Look(l, c.id, c.request, c.acked)
		if v != c.want || e != api.OK {
			t.Fatal(c, v, e)
		}
		if !sameClients(whole(l), before) {
			t.Fatalf("%v changed %s", c, brief(whole(l)))
		}
		apart(t, "Look", spansOfClients(l[:cap(l)]), spansOfClients(got), spanOf(reply))
		want, told := cloneClients(got), string(reply)
		spoilClients(l)
		if !sameClients(got, want) || string(reply) != told {
			t.Fatalf("%v kept what it was handed: %s", c, brief(got))
		}
		spoil(reply)
		if !sameClients(got, want) {
			t.Fatalf("%v: the reply is the clients': %s", c, brief(got))
		}
		_, _, reply, _ = session.Look(roomyClients(), c.id, c.request, c.acked)
		spoilClients(got)
		if string(reply) != told {
			t.Fatalf("%v: another answer's reply: %q", c, reply)
		}
	}
}

// R3: Done changes nothing of what it is handed, its spare room neither, keeps nothing of it, and what it tells is new.
func TestDoneApart(t *testing.T) {
	for _, c := range []name{{20, 5}, {20, 7}, {20, 10}, {30, 1}, {40, 1}, {40, 8}} {
		l, reply := roomyClients(), roomy("the reply")
		before, room := whole(l), bytes.Clone(reply[:cap(reply)])
		got, e := session.Done(l, c.client, c.request, reply)
		if e != api.OK {
			t.Fatal(c, e)
		}
		if !sameClients(whole(l), before) || !bytes.Equal(reply[:cap(reply)], room) {
			t.Fatalf("%v changed %s, %q", c, brief(whole(l)), reply[:cap(reply)])
		}
		apart(t, "Done", spansOfClients(l[:cap(l)]), spansOfClients(got), spanOf(reply))
		want := cloneClients(got)
		spoilClients(l)
		spoil(reply)
		if !sameClients(got, want) {
			t.Fatalf("%v kept what it was handed: %s", c, brief(got))
		}
		look(t, got, c.client, c.request, 0)
	}
}

// R3: Ask and Take change nothing of what they are handed, its spare room neither, keep nothing of it, and what they tell is new.
func TestAskerApart(t *testing.T) {
	a, body := roomyAsker(), roomy("the body")
	before, room := wholeAsker(a), bytes.Clone(body[:cap(body)])
	asked, _, e := session.Ask(a, body)
	if e != api.OK || !sameAsker(wholeAsker(a), before) || !bytes.Equal(body[:cap(body)], room) {
		t.Fatal(e, briefAsker(wholeAsker(a)))
	}
	want := cloneAsker(asked)
	answers := []api.Asker{asked}
	for _, request := range []int{3, 5, 8, 4, 0} {
		got, _, e := session.Take(a, request)
		if e != api.OK || !sameAsker(wholeAsker(a), before) {
			t.Fatal(request, e, briefAsker(wholeAsker(a)))
		}
		answers = append(answers, got)
	}
	spans := [][]span{spansOfAsker(a), spanOf(body)}
	var copies []api.Asker
	for _, x := range answers {
		spans = append(spans, spansOfAsker(x))
		copies = append(copies, cloneAsker(x))
	}
	apart(t, "askers", spans...)
	spoilAsker(a)
	spoil(body)
	for i, x := range answers {
		if !sameAsker(x, copies[i]) {
			t.Fatalf("answer %d: %s", i, briefAsker(x))
		}
	}
	spoilAsker(answers[1])
	if !sameAsker(asked, want) {
		t.Fatal(briefAsker(asked))
	}
}

// R3: one that is refused changes nothing of what it was handed, its spare room neither.
func TestRefusedApart(t *testing.T) {
	l, long := roomyClients(), roomy(string(make([]byte, mostBytes+1)))
	before, room := whole(l), bytes.Clone(long[:cap(long)])
	lookRefused(t, l, 10, 0, 0, api.ErrArg)
	lookRefused(t, l, 15, 4, 4, api.ErrArg)
	doneRefused(t, l, 10, 9, nil, api.ErrFull)
	doneRefused(t, l, 20, 5, long, api.ErrLong)
	doneRefused(t, l, 20, 6, long, api.ErrArg)
	if !sameClients(whole(l), before) || !bytes.Equal(long[:cap(long)], room) {
		t.Fatal(brief(whole(l)))
	}
	a := roomyAsker()
	was := wholeAsker(a)
	askRefused(t, a, long, api.ErrLong)
	a.Acked = 3
	askRefused(t, a, nil, api.ErrArg)
	takeRefused(t, a, 3)
	a.Acked = 2
	if !sameAsker(wholeAsker(a), was) || !bytes.Equal(long[:cap(long)], room) {
		t.Fatal(briefAsker(wholeAsker(a)))
	}
}

// R4, R6: the same arguments tell the same each time, and an empty list is as none.
func TestSameAgain(t *testing.T) {
	for _, c := range lookCalls {
		first, v, reply, _ := session.Look(roomyClients(), c.id, c.request, c.acked)
		second, w, again, _ := session.Look(roomyClients(), c.id, c.request, c.acked)
		if v != w || !bytes.Equal(reply, again) || !sameClients(first, second) {
			t.Fatal(c, v, w)
		}
	}
	none, _, _, _ := session.Look([]api.Client{{Id: 3}}, 3, 1, 0)
	empty, _, _, _ := session.Look([]api.Client{{Id: 3, Kept: []api.Kept{}}}, 3, 1, 0)
	if !sameClients(none, empty) {
		t.Fatal(brief(none), brief(empty))
	}
	a, _, e := session.Ask(api.Asker{Id: 3, Next: 1, Waits: []api.Wait{}}, []byte{})
	b, _, f := session.Ask(api.Asker{Id: 3, Next: 1}, nil)
	if e != f || !sameAsker(a, b) {
		t.Fatal(briefAsker(a), briefAsker(b))
	}
}
