package session_test

import (
	"fmt"
	"testing"

	"muster/api"
	"muster/session"
)

// letter is a request on its way, with the acked of the time at which it was sent.
type letter struct {
	client, request, acked int
}

// parcel is a reply on its way.
type parcel struct {
	client, request int
	reply           string
}

// name is a request among those of all clients.
type name struct {
	client, request int
}

// town is one server and its askers, with all letters and replies that ever were sent: each may arrive at any time, any number of times.
type town struct {
	t       *testing.T
	server  []api.Client
	askers  []api.Asker
	letters []letter
	parcels []parcel
	bodies  map[name]string // what was asked
	replies map[name]string // what was done
	taken   map[name]bool   // what was answered
	did     int
	seen    map[api.Verdict]int
}

func newTown(t *testing.T, ids ...int) *town {
	w := &town{t: t, bodies: map[name]string{}, replies: map[name]string{}, taken: map[name]bool{}, seen: map[api.Verdict]int{}}
	for _, id := range ids {
		a, e := session.Begin(id)
		if e != api.OK {
			t.Fatal(id, e)
		}
		w.askers = append(w.askers, a)
	}
	return w
}

// ask has asker i ask for one thing more, if it may.
func (w *town) ask(i int) {
	w.t.Helper()
	a := w.askers[i]
	body := fmt.Sprintf("%d asks for %d", a.Id, a.Next)
	b, request, e := session.Ask(a, []byte(body))
	if e == api.ErrBusy && a.Next-1-a.Acked == window {
		return
	}
	if e != api.OK {
		w.t.Fatal(e)
	}
	w.askers[i] = b
	w.bodies[name{a.Id, request}] = body
	w.letters = append(w.letters, letter{a.Id, request, b.Acked})
}

// again has asker i send all that waits once more.
func (w *town) again(i int) {
	a := w.askers[i]
	for _, x := range a.Waits {
		if string(x.Body) != w.bodies[name{a.Id, x.Request}] {
			w.t.Fatalf("%d waits with %.30q", x.Request, x.Body)
		}
		w.letters = append(w.letters, letter{a.Id, x.Request, a.Acked})
	}
}

// arrive has a letter arrive at the server, which does what is new and tells Done, nothing else.
func (w *town) arrive(x letter) {
	w.t.Helper()
	key := name{x.client, x.request}
	l, v, reply, e := session.Look(w.server, x.client, x.request, x.acked)
	if e != api.OK || !session.Right(l) {
		w.t.Fatalf("%v: %d, %s", x, e, brief(l))
	}
	w.server = l
	w.seen[v]++
	switch v {
	case api.VerdictNew:
		if _, ok := w.replies[key]; ok {
			w.t.Fatalf("%v: done twice", x)
		}
		w.did++
		reply = []byte(fmt.Sprintf("deed %d: %s", w.did, w.bodies[key]))
		w.replies[key] = string(reply)
		l, e = session.Done(w.server, x.client, x.request, reply)
		if e != api.OK || !session.Right(l) {
			w.t.Fatalf("%v: Done: %d, %s", x, e, brief(l))
		}
		w.server = l
	case api.VerdictOld:
		if string(reply) != w.replies[key] {
			w.t.Fatalf("%v: %q; was %q", x, reply, w.replies[key])
		}
	case api.VerdictStale:
		if !w.taken[key] {
			w.t.Fatalf("%v: stale, and not answered: %s", x, brief(w.server))
		}
		return
	default:
		w.t.Fatalf("%v: verdict %d: %s", x, v, brief(w.server))
	}
	w.parcels = append(w.parcels, parcel{x.client, x.request, string(reply)})
}

// answer has a reply arrive at its asker.
func (w *town) answer(p parcel) {
	w.t.Helper()
	key := name{p.client, p.request}
	for i, a := range w.askers {
		if a.Id != p.client {
			continue
		}
		b, waited, e := session.Take(a, p.request)
		if e != api.OK || !session.RightAsker(b) || waited == w.taken[key] {
			w.t.Fatalf("%v: %v, %d, %s", p, waited, e, briefAsker(b))
		}
		w.askers[i] = b
	}
	w.taken[key] = true
}

// settle sends what waits, and has all that arrive, till nothing waits.
func (w *town) settle() {
	w.t.Helper()
	for i := range w.askers {
		for len(w.askers[i].Waits) > 0 {
			first := len(w.letters)
			w.again(i)
			for _, x := range w.letters[first:] {
				w.arrive(x)
				w.answer(w.parcels[len(w.parcels)-1])
			}
		}
		if a := w.askers[i]; a.Acked != a.Next-1 {
			w.t.Fatal(briefAsker(a))
		}
	}
	if w.did != len(w.bodies) || len(w.replies) != len(w.bodies) || len(w.taken) != len(w.bodies) {
		w.t.Fatalf("%d asked, %d done, %d answered", len(w.bodies), w.did, len(w.taken))
	}
}

// pick is mostly one of the last few of so many, now and then any.
func (d *dice) pick(count int) int {
	if d.below(3) == 0 {
		return d.below(count)
	}
	return count - 1 - d.below(min(count, 12))
}

// P9.5: askers whose requests arrive late, twice and out of order, and whose answers do: each is done once, answered alike, never busy, not stale ahead of its answer.
func TestOnce(t *testing.T) {
	for seed := range 80 {
		roll := dice(seed)
		ids := []int{9, 2, most}
		if seed%4 == 0 {
			ids = append(ids, 1, 3, 4, 5, 6, 7, 8, 10, 11, 12, 13, 14, 15)
		}
		w := newTown(t, ids...)
		for range 2000 {
			switch i := roll.below(len(w.askers)); roll.below(8) {
			case 0, 1, 2:
				w.ask(i)
			case 3:
				w.again(i)
			case 4, 5, 6:
				if len(w.letters) > 0 {
					w.arrive(w.letters[roll.pick(len(w.letters))])
				}
			default:
				if len(w.parcels) > 0 {
					w.answer(w.parcels[roll.pick(len(w.parcels))])
				}
			}
		}
		w.settle()
		for _, x := range w.letters {
			w.arrive(x)
		}
		if len(w.server) != len(ids) {
			t.Fatal(brief(w.server))
		}
		for _, v := range []api.Verdict{api.VerdictNew, api.VerdictOld, api.VerdictStale} {
			if w.seen[v] == 0 {
				t.Fatalf("seed %d: never verdict %d: the script is wrong", seed, v)
			}
		}
	}
}

// orders are all orders of the numbers below n.
func orders(n int) [][]int {
	if n == 0 {
		return [][]int{nil}
	}
	var all [][]int
	for _, o := range orders(n - 1) {
		for at := range n {
			one := append([]int{}, o[:at]...)
			all = append(all, append(append(one, n-1), o[at:]...))
		}
	}
	return all
}

// P9.5: six requests in all orders, each twice, the second time behind all; then their answers in that order.
func TestOnceInAllOrders(t *testing.T) {
	for _, order := range orders(6) {
		w := newTown(t, 5)
		for range order {
			w.ask(0)
		}
		for range 2 {
			for _, i := range order {
				w.arrive(w.letters[i])
			}
		}
		if w.did != 6 || w.seen[api.VerdictOld] != 6 {
			t.Fatal(order, w.did, w.seen)
		}
		for _, i := range order {
			w.answer(w.parcels[i])
			w.ask(0)
			w.arrive(w.letters[len(w.letters)-1])
		}
		for _, i := range order {
			w.arrive(w.letters[i])
		}
		w.settle()
	}
}

// P9.5: a full window whose first request arrives last, and windows behind it that go on with what is acked at its least.
func TestOnceInFullWindows(t *testing.T) {
	w := newTown(t, 5)
	for range window {
		w.ask(0)
	}
	w.ask(0)
	if len(w.letters) != window {
		t.Fatal("a ninth letter")
	}
	for i := window - 1; i >= 0; i-- {
		w.arrive(w.letters[i])
	}
	if len(w.server[0].Kept) != window {
		t.Fatal(brief(w.server))
	}
	for i := range window {
		w.answer(w.parcels[window-1-i])
		w.ask(0)
	}
	if len(w.letters) != 2*window {
		t.Fatal(len(w.letters))
	}
	for i := 2*window - 1; i >= window; i-- {
		w.arrive(w.letters[i])
	}
	for i := range w.letters {
		w.arrive(w.letters[i])
	}
	w.settle()
}

// P9.5: clients that keep to nothing: requests and acked as they like; yet each is done once at most, all its replies are the same, and right stays right.
func TestOnceOfAnyRequests(t *testing.T) {
	busy := 0
	for seed := range 40 {
		roll := dice(seed)
		var l []api.Client
		replies := map[name]string{}
		for i := range 1000 {
			key := name{1 + roll.below(18), 1 + roll.below(12)}
			acked := 0
			if roll.below(15) == 0 {
				acked = roll.below(key.request)
			}
			got, v, reply, e := session.Look(l, key.client, key.request, acked)
			if e == api.ErrFull {
				continue
			}
			was, twice := replies[key]
			if e != api.OK || !session.Right(got) || v == api.VerdictNew && twice || v == api.VerdictOld && (!twice || string(reply) != was) {
				t.Fatalf("Look(%s, %v, %d) = %s, %d, %q, %d", brief(l), key, acked, brief(got), v, reply, e)
			}
			l = got
			switch v {
			case api.VerdictNew:
				replies[key] = fmt.Sprint("deed ", i)
				l, e = session.Done(l, key.client, key.request, []byte(replies[key]))
				if e != api.OK || !session.Right(l) {
					t.Fatal(e, brief(l))
				}
			case api.VerdictBusy:
				busy++
			}
		}
	}
	if busy == 0 {
		t.Fatal("never busy: the scripts are wrong")
	}
}
