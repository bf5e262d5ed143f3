package session_test

import (
	"bytes"
	"fmt"
	"math"
	"slices"
	"testing"

	"muster/api"
	"muster/session"
)

// rightCases are lists of clients, and whether they are right.
func rightCases() map[string]struct {
	l    []api.Client
	want bool
} {
	type one = struct {
		l    []api.Client
		want bool
	}
	with := func(c ...api.Client) []api.Client { return c }
	long := client(1, 0, 1)
	long.Kept[0].Reply = make([]byte, mostBytes+1)
	return map[string]one{
		"none":                     {nil, true},
		"an empty list":            {[]api.Client{}, true},
		"one":                      {with(client(1, 0)), true},
		"an empty Kept":            {with(api.Client{Id: 1, Kept: []api.Kept{}}), true},
		"a reply of no bytes":      {with(api.Client{Id: 1, Kept: []api.Kept{{Request: 1}}}), true},
		"a reply of any length":    {with(long), true},
		"fifteen":                  {clients(mostClients - 1), true},
		"sixteen":                  {clients(mostClients), true},
		"seventeen":                {clients(mostClients + 1), false},
		"forty":                    {clients(40), false},
		"the Id 0":                 {with(client(0, 0)), false},
		"the Id 0 ahead":           {with(client(0, 0), client(1, 0)), false},
		"an Id below 0":            {with(client(-1, 0)), false},
		"an Id far below 0":        {with(client(math.MinInt, 0)), false},
		"an Id twice":              {with(client(3, 0), client(3, 0)), false},
		"an Id twice, apart":       {with(client(3, 0), client(4, 0), client(3, 0)), false},
		"an Id twice at the end":   {with(client(2, 0), client(3, 0), client(3, 1)), false},
		"Ids that fall":            {with(client(4, 0), client(3, 0)), false},
		"Ids that fall at the end": {with(client(1, 0), client(4, 0), client(3, 0)), false},
		"Ids that rise by one":     {with(client(1, 0), client(2, 0), client(3, 0)), true},
		"the greatest Id":          {with(client(most, 0)), true},
		"the greatest Ids":         {with(client(most-1, 0), client(most, 0)), true},
		"an Id above":              {with(client(most+1, 0)), false},
		"an Id above, behind":      {with(client(1, 0), client(most+1, 0)), false},
		"an Id far above":          {with(client(math.MaxInt, 0)), false},
		"a Floor below 0":          {with(client(1, -1)), false},
		"a Floor far below 0":      {with(client(1, math.MinInt)), false},
		"a second Floor below 0":   {with(client(1, 0), client(2, -1)), false},
		"the greatest Floor":       {with(client(1, most)), true},
		"a Floor above":            {with(client(1, most+1)), false},
		"a Floor far above":        {with(client(1, math.MaxInt)), false},
		"a first Floor above":      {with(client(1, most+1), client(2, 0)), false},
		"Floors that fall":         {with(client(1, 9), client(2, 0)), true},
		"seven Kept":               {with(client(1, 0, upTo(1, 7)...)), true},
		"eight Kept":               {with(client(1, 0, upTo(1, 8)...)), true},
		"nine Kept":                {with(client(1, 0, upTo(1, 9)...)), false},
		"nine Kept, further on":    {with(client(1, 0), client(2, 5, upTo(6, 14)...)), false},
		"eight Kept of each":       {with(client(1, 0, upTo(1, 8)...), client(2, 0, upTo(1, 8)...)), true},
		"Kept far apart":           {with(client(1, 0, 5, 500, 5000)), true},
		"a Request at the Floor":   {with(client(1, 5, 5, 6)), false},
		"a Request below it":       {with(client(1, 5, 4)), false},
		"a Request one above it":   {with(client(1, 5, 6)), true},
		"the Request 0":            {with(client(1, 0, 0)), false},
		"a Request below 0":        {with(client(1, 0, -1)), false},
		"a Request twice":          {with(client(1, 0, 2, 2)), false},
		"a Request twice, later":   {with(client(1, 0, 1, 2, 2)), false},
		"Requests that fall":       {with(client(1, 0, 3, 2)), false},
		"one that falls":           {with(client(1, 0, 1, 4, 3)), false},
		"the greatest Request":     {with(client(1, 0, most)), true},
		"the greatest Requests":    {with(client(1, most-2, most-1, most)), true},
		"a Request above":          {with(client(1, 0, most+1)), false},
		"a later Request above":    {with(client(1, most-1, most, most+1)), false},
		"a Request far above":      {with(client(1, 0, math.MaxInt)), false},
		"a wrong last client":      {append(clients(mostClients-1), client(1000, 3, 3)), false},
	}
}

// P9.1: Right, with each edge of the chapter's words; asked twice it tells the same.
func TestRight(t *testing.T) {
	for name, c := range rightCases() {
		before := cloneClients(c.l)
		for range 2 {
			if got := session.Right(c.l); got != c.want {
				t.Errorf("%s: Right(%s) = %v", name, brief(c.l), got)
			}
		}
		if !sameClients(c.l, before) {
			t.Errorf("%s: changed: %s", name, brief(c.l))
		}
	}
}

// isRight is the chapter's words of right clients, each asked of all for itself.
func isRight(l []api.Client) bool {
	ok := len(l) <= mostClients
	for i, c := range l {
		ok = ok && c.Id >= 1 && c.Id <= most && c.Floor >= 0 && c.Floor <= most && len(c.Kept) <= window
		for _, d := range l[:i] {
			ok = ok && d.Id < c.Id
		}
		for j, k := range c.Kept {
			ok = ok && k.Request > c.Floor && k.Request <= most
			for _, h := range c.Kept[:j] {
				ok = ok && h.Request < k.Request
			}
		}
	}
	return ok
}

// P9.1 to P9.3: all lists of up to two clients of few numbers, right and wrong: Right tells which, and Look and Done refuse the wrong ones.
func TestRightOfAll(t *testing.T) {
	var single []api.Client
	for _, id := range []int{0, 1, 2} {
		for _, floor := range []int{-1, 0, 1} {
			for _, kept := range [][]int{nil, {0}, {1}, {2}, {1, 2}, {2, 1}, {2, 2}, {2, 3}} {
				single = append(single, client(id, floor, kept...))
			}
		}
	}
	lists := [][]api.Client{nil}
	for _, c := range single {
		lists = append(lists, []api.Client{c})
		for _, d := range single {
			lists = append(lists, []api.Client{c, d})
		}
	}
	for _, l := range lists {
		if got := session.Right(l); got != isRight(l) {
			t.Fatalf("Right(%s) = %v", brief(l), got)
		}
		if !isRight(l) {
			lookRefused(t, l, 1, 5, 0, api.ErrArg)
			doneRefused(t, l, 1, 5, nil, api.ErrArg)
			doneRefused(t, l, 2, 5, nil, api.ErrArg)
			continue
		}
		for id := range 4 {
			for request := range 5 {
				done(t, l, id, request, "new")
				for acked := range request + 1 {
					look(t, l, id, request, acked)
				}
			}
		}
	}
}

// P9.2, P9.3, R2: wrong clients of each kind are refused, whatever else is asked.
func TestWrongClients(t *testing.T) {
	for _, c := range rightCases() {
		if c.want {
			continue
		}
		for _, id := range []int{0, 1, 2, 3, 4, 10, 1000, most} {
			lookRefused(t, c.l, id, 20, 0, api.ErrArg)
			lookRefused(t, c.l, id, 20, 19, api.ErrArg)
			doneRefused(t, c.l, id, 20, []byte("x"), api.ErrArg)
			doneRefused(t, c.l, id, most, make([]byte, mostBytes+1), api.ErrArg)
		}
	}
}

// P9.2, P9.3: the chapter's first example.
func TestServerExample(t *testing.T) {
	l := lookIs(t, nil, 5, 1, 0, api.VerdictNew, "")
	if !sameClients(l, []api.Client{{Id: 5}}) {
		t.Fatal(brief(l))
	}
	l = doneIs(t, l, 5, 1, "a", api.Client{Id: 5, Kept: []api.Kept{{Request: 1, Reply: []byte("a")}}})
	l = lookIs(t, l, 5, 1, 0, api.VerdictOld, "a")
	l = lookIs(t, l, 5, 2, 1, api.VerdictNew, "")
	if !sameClients(l, []api.Client{{Id: 5, Floor: 1}}) {
		t.Fatal(brief(l))
	}
	lookIs(t, l, 5, 1, 0, api.VerdictStale, "")
}

// P9.2: a new client ahead of, between and behind the others, with Floor acked and nothing kept.
func TestNewClient(t *testing.T) {
	three := []api.Client{client(10, 1, 2), client(20, 0), client(30, 4, 6, 9)}
	for id, at := range map[int]int{1: 0, 9: 0, 11: 1, 19: 1, 21: 2, 29: 2, 31: 3, most: 3} {
		for _, acked := range []int{0, 1, 7} {
			want := slices.Insert(cloneClients(three), at, client(id, acked))
			if got := lookIs(t, three, id, 8, acked, api.VerdictNew, ""); !sameClients(got, want) {
				t.Fatalf("%d: %s", id, brief(got))
			}
		}
	}
	for _, id := range []int{1, 2, most} {
		if got := lookIs(t, nil, id, most, most-1, api.VerdictNew, ""); !sameClients(got, []api.Client{client(id, most-1)}) {
			t.Fatal(brief(got))
		}
	}
	if got := lookIs(t, []api.Client{}, 7, 3, 0, api.VerdictNew, ""); !sameClients(got, []api.Client{client(7, 0)}) {
		t.Fatal(brief(got))
	}
}

// P9.2: a sixteenth client has room in each place, a seventeenth in none; one that is known goes on.
func TestFullOfClients(t *testing.T) {
	fifteen, sixteen := clients(mostClients-1), clients(mostClients)
	for place := range mostClients {
		l := lookIs(t, fifteen, place*10+5, 3, 1, api.VerdictNew, "")
		if len(l) != mostClients || !sameClient(l[place], client(place*10+5, 1)) {
			t.Fatal(brief(l))
		}
		lookRefused(t, l, place*10+6, 3, 1, api.ErrFull)
	}
	for place := range mostClients + 1 {
		lookRefused(t, sixteen, place*10+5, 3, 1, api.ErrFull)
		lookRefused(t, sixteen, place*10+5, 1, 0, api.ErrFull)
	}
	lookRefused(t, sixteen, most, most, 0, api.ErrFull)
	for i, c := range sixteen {
		lookIs(t, sixteen, c.Id, i+1, 0, api.VerdictOld, replyTo(c.Id, i+1))
		lookIs(t, sixteen, c.Id, i+2, 0, api.VerdictNew, "")
		doneIs(t, sixteen, c.Id, i+2, replyTo(c.Id, i+2), slices.Replace(clients(mostClients), i, i+1, client(c.Id, i, i+1, i+2, i+5))...)
	}
}

// P9.2: a Floor is raised to an acked above it, not by one at it or below; what is kept up to there is let go, what is above stays.
func TestAcked(t *testing.T) {
	l := []api.Client{client(1, 3, 4, 6), client(2, 3, 4, 6, 7, 9), client(3, 3, 4, 6)}
	for acked, want := range map[int]api.Client{
		0:  client(2, 3, 4, 6, 7, 9),
		2:  client(2, 3, 4, 6, 7, 9),
		3:  client(2, 3, 4, 6, 7, 9),
		4:  client(2, 4, 6, 7, 9),
		5:  client(2, 5, 6, 7, 9),
		6:  client(2, 6, 7, 9),
		7:  client(2, 7, 9),
		8:  client(2, 8, 9),
		9:  client(2, 9),
		10: client(2, 10),
		50: client(2, 50),
	} {
		got := lookIs(t, l, 2, 51, acked, api.VerdictNew, "")
		if !sameClients(got, []api.Client{l[0], want, l[2]}) {
			t.Fatalf("acked %d: %s", acked, brief(got))
		}
	}
	for _, c := range l {
		got := lookIs(t, l, c.Id, most, most-1, api.VerdictNew, "")
		i := slices.IndexFunc(got, func(d api.Client) bool { return d.Id == c.Id })
		if !sameClients(got, slices.Replace(cloneClients(l), i, i+1, client(c.Id, most-1))) {
			t.Fatal(brief(got))
		}
	}
}

// P9.2: each verdict, at the Floor, below and above it, and what is kept.
func TestVerdicts(t *testing.T) {
	l := []api.Client{client(1, 0, upTo(1, 8)...), client(2, 3, 4, 6), client(3, 9, upTo(10, 17)...), client(4, most)}
	for _, c := range []struct {
		id, request int
		want        api.Verdict
	}{
		{1, 1, api.VerdictOld}, {1, 8, api.VerdictOld}, {1, 9, api.VerdictBusy}, {1, most, api.VerdictBusy},
		{2, 1, api.VerdictStale}, {2, 2, api.VerdictStale}, {2, 3, api.VerdictStale},
		{2, 4, api.VerdictOld}, {2, 5, api.VerdictNew}, {2, 6, api.VerdictOld}, {2, 7, api.VerdictNew}, {2, most, api.VerdictNew},
		{3, 8, api.VerdictStale}, {3, 9, api.VerdictStale}, {3, 10, api.VerdictOld}, {3, 13, api.VerdictOld}, {3, 17, api.VerdictOld}, {3, 18, api.VerdictBusy},
		{4, 1, api.VerdictStale}, {4, most, api.VerdictStale}, {5, 1, api.VerdictNew}, {5, most, api.VerdictNew},
	} {
		reply := ""
		if c.want == api.VerdictOld {
			reply = replyTo(c.id, c.request)
		}
		got := lookIs(t, l, c.id, c.request, 0, c.want, reply)
		want := cloneClients(l)
		if c.id == 5 {
			want = append(want, client(5, 0))
		}
		if !sameClients(got, want) {
			t.Fatalf("%d, %d: %s", c.id, c.request, brief(got))
		}
	}
}

// P9.2: what comes first of several verdicts: stale ahead of old (a reply that was kept, and is let go, is not told) and ahead of busy; old ahead of busy.
func TestVerdictsInOrder(t *testing.T) {
	l := []api.Client{client(7, 0, upTo(1, 8)...)}
	for request := 1; request <= 8; request++ {
		lookIs(t, l, 7, request, 0, api.VerdictOld, replyTo(7, request))
		lookIs(t, l, 7, request, request-1, api.VerdictOld, replyTo(7, request))
		later := lookIs(t, l, 7, 20, request, api.VerdictNew, "")
		for r := 1; r <= request; r++ {
			lookIs(t, later, 7, r, 0, api.VerdictStale, "")
			lookIs(t, later, 7, r, r-1, api.VerdictStale, "")
		}
		for r := request + 1; r <= 8; r++ {
			lookIs(t, later, 7, r, 0, api.VerdictOld, replyTo(7, r))
		}
	}
	full := []api.Client{client(7, 4, upTo(5, 12)...)}
	for request := 1; request <= 4; request++ {
		lookIs(t, full, 7, request, 0, api.VerdictStale, "")
	}
}

// P9.2: a busy request's acked counts, too: it lets go ahead of the verdict.
func TestBusyNoMore(t *testing.T) {
	l := []api.Client{client(7, 0, upTo(1, 8)...)}
	lookIs(t, l, 7, 9, 0, api.VerdictBusy, "")
	got := lookIs(t, l, 7, 9, 1, api.VerdictNew, "")
	if !sameClients(got, []api.Client{client(7, 1, upTo(2, 8)...)}) {
		t.Fatal(brief(got))
	}
	gap := []api.Client{client(7, 0, upTo(3, 10)...)}
	got = lookIs(t, gap, 7, 11, 2, api.VerdictBusy, "")
	if !sameClients(got, []api.Client{client(7, 2, upTo(3, 10)...)}) {
		t.Fatal(brief(got))
	}
	lookIs(t, got, 7, 2, 0, api.VerdictStale, "")
	lookIs(t, gap, 7, 2, 0, api.VerdictBusy, "")
	lookIs(t, gap, 7, 2, 1, api.VerdictBusy, "")
}

// P9.2: a reply of no bytes is told as old, and one of as many as may be, whole.
func TestReplies(t *testing.T) {
	big := string(bytes.Repeat([]byte("\x00\xff7"), mostBytes)[:mostBytes])
	l := lookIs(t, nil, 3, 1, 0, api.VerdictNew, "")
	l, _ = done(t, l, 3, 1, "")
	l, _ = done(t, l, 3, 2, big)
	l, _ = done(t, l, 3, 3, big[:mostBytes-1])
	lookIs(t, l, 3, 1, 0, api.VerdictOld, "")
	lookIs(t, l, 3, 2, 0, api.VerdictOld, big)
	lookIs(t, l, 3, 3, 2, api.VerdictOld, big[:mostBytes-1])
	l, e := session.Done(l, 3, 4, nil)
	if e != api.OK {
		t.Fatal(e)
	}
	lookIs(t, l, 3, 4, 0, api.VerdictOld, "")
}

// P9.2: numbers that may not be: of a client, of a request, and acked below 0, at the request and above it.
func TestLookArguments(t *testing.T) {
	for _, l := range [][]api.Client{nil, {client(5, 2, 4)}, clients(mostClients)} {
		for _, n := range wrongNumbers {
			lookRefused(t, l, n, 1, 0, api.ErrArg)
			lookRefused(t, l, 5, n, 0, api.ErrArg)
			lookRefused(t, l, 10, n, n-1, api.ErrArg)
		}
		for _, id := range []int{5, 10} {
			for _, request := range []int{1, 2, 4, 7, most} {
				for _, acked := range []int{-1, -2, math.MinInt, request, request + 1, most, most + 1, math.MaxInt} {
					lookRefused(t, l, id, request, acked, api.ErrArg)
				}
			}
		}
	}
	lookIs(t, nil, most, most, most-1, api.VerdictNew, "")
	lookIs(t, nil, 1, 1, 0, api.VerdictNew, "")
}

// P9.2, R2: Look's ErrArg counts ahead of ErrFull.
func TestLookErrorsInOrder(t *testing.T) {
	sixteen := clients(mostClients)
	lookRefused(t, sixteen, 5, 1, 0, api.ErrFull)
	lookRefused(t, sixteen, 0, 1, 0, api.ErrArg)
	lookRefused(t, sixteen, most+1, 1, 0, api.ErrArg)
	lookRefused(t, sixteen, 5, 0, 0, api.ErrArg)
	lookRefused(t, sixteen, 5, most+1, 0, api.ErrArg)
	lookRefused(t, sixteen, 5, 1, 1, api.ErrArg)
	lookRefused(t, sixteen, 5, 1, -1, api.ErrArg)
	lookRefused(t, clients(mostClients+1), 5, 1, 0, api.ErrArg)
	sixteen[15].Floor = -1
	lookRefused(t, sixteen, 5, 1, 0, api.ErrArg)
}

// P9.3: a reply is kept in its request's place, ahead of, between and behind those that are kept; no other client's are touched.
func TestDonePlaces(t *testing.T) {
	first, last := client(1, 0, 1), client(9, 0, 1)
	l := []api.Client{first, client(5, 2, 5, 8), last}
	for request, want := range map[int]api.Client{
		3:    client(5, 2, 3, 5, 8),
		4:    client(5, 2, 4, 5, 8),
		6:    client(5, 2, 5, 6, 8),
		7:    client(5, 2, 5, 7, 8),
		9:    client(5, 2, 5, 8, 9),
		most: client(5, 2, 5, 8, most),
	} {
		doneIs(t, l, 5, request, replyTo(5, request), first, want, last)
	}
	doneIs(t, l, 1, 2, replyTo(1, 2), client(1, 0, 1, 2), l[1], last)
	doneIs(t, l, 9, 2, replyTo(9, 2), first, l[1], client(9, 0, 1, 2))
	doneIs(t, []api.Client{client(most, most-1)}, most, most, replyTo(most, most), client(most, most-1, most))
}

// P9.3: no client of that Id, a request at the Floor, below it, above 2^62, or one that is kept.
func TestDoneArguments(t *testing.T) {
	l := []api.Client{client(2, 3, 4, 7), client(5, 0), client(8, most)}
	for _, id := range append([]int{1, 3, 4, 6, 9, most}, wrongNumbers...) {
		doneRefused(t, l, id, 20, []byte("x"), api.ErrArg)
		doneRefused(t, nil, id, 1, nil, api.ErrArg)
	}
	for _, request := range append([]int{1, 2, 3, 4, 7}, wrongNumbers...) {
		doneRefused(t, l, 2, request, []byte("x"), api.ErrArg)
		doneRefused(t, l, 8, request, nil, api.ErrArg)
	}
	for _, request := range wrongNumbers {
		doneRefused(t, l, 5, request, nil, api.ErrArg)
	}
	doneRefused(t, l, 8, most, nil, api.ErrArg)
	for _, request := range []int{5, 6, 8, most} {
		if _, e := done(t, l, 2, request, "x"); e != api.OK {
			t.Fatal(request, e)
		}
	}
}

// P9.3: a reply of MaxFrame bytes and of one more; seven kept and an eighth, eight and a ninth.
func TestDoneBounds(t *testing.T) {
	l := []api.Client{client(5, 0)}
	for _, size := range []int{0, 1, mostBytes - 1, mostBytes} {
		if _, e := done(t, l, 5, 1, string(make([]byte, size))); e != api.OK {
			t.Fatal(size, e)
		}
	}
	for _, size := range []int{mostBytes + 1, mostBytes + 2, 2 * mostBytes, 1 << 20} {
		doneRefused(t, l, 5, 1, make([]byte, size), api.ErrLong)
	}
	for request := 1; request <= 8; request++ {
		l = doneIs(t, l, 5, request, replyTo(5, request), client(5, 0, upTo(1, request)...))
	}
	for _, request := range []int{9, 10, most} {
		doneRefused(t, l, 5, request, []byte("x"), api.ErrFull)
	}
	gap := []api.Client{client(5, 2, 3, 4, 5, 7, 8, 9, 10, 11)}
	doneRefused(t, gap, 5, 6, nil, api.ErrFull)
	doneRefused(t, gap, 5, 12, nil, api.ErrFull)
	room := lookIs(t, gap, 5, 6, 3, api.VerdictNew, "")
	doneIs(t, room, 5, 6, replyTo(5, 6), client(5, 3, upTo(4, 11)...))
}

// P9.3, R2: Done's errors, each ahead of those behind it.
func TestDoneErrorsInOrder(t *testing.T) {
	long := make([]byte, mostBytes+1)
	l := []api.Client{client(5, 2, upTo(3, 10)...), client(6, 0)}
	doneRefused(t, l, 5, 11, nil, api.ErrFull)
	doneRefused(t, l, 5, 11, long, api.ErrLong)
	doneRefused(t, l, 6, 1, long, api.ErrLong)
	for _, request := range []int{3, 10, 2, 1, 0, -1, most + 1} {
		doneRefused(t, l, 5, request, nil, api.ErrArg)
		doneRefused(t, l, 5, request, long, api.ErrArg)
	}
	doneRefused(t, l, 7, 11, long, api.ErrArg)
	wrong := []api.Client{client(5, 2, upTo(2, 9)...)}
	doneRefused(t, wrong, 5, 11, nil, api.ErrArg)
	doneRefused(t, wrong, 5, 11, long, api.ErrArg)
}

// P9.1 to P9.3: long scripts of both calls with all sorts of numbers, held against the model behind each call.
func TestServerScripts(t *testing.T) {
	seen := map[string]int{}
	for seed := range 60 {
		roll := dice(seed)
		var l []api.Client
		ids, base := 3+roll.below(18), 0
		if seed%3 == 0 {
			base = most - 40
		}
		for i := range 300 {
			id, request := 1+roll.below(ids), base+1+roll.below(14)+i/20
			acked := roll.below(3)
			if roll.below(6) == 0 {
				acked = max(0, request-1-roll.below(13))
			}
			if roll.below(2) == 0 {
				var e api.Errno
				l, e = done(t, l, id, request, fmt.Sprint(seed, " ", i))
				seen[fmt.Sprint("done ", int(e))]++
				continue
			}
			var v api.Verdict
			known := len(l)
			l, v = look(t, l, id, request, acked)
			seen[fmt.Sprint("verdict ", v)]++
			if len(l) > known {
				seen["new client"]++
			}
		}
	}
	for _, s := range []string{"done 0", "done 2", "done 5", "verdict 0", "verdict 1", "verdict 2", "verdict 3", "verdict 4", "new client"} {
		if seen[s] == 0 {
			t.Errorf("never %s: the scripts are wrong: %v", s, seen)
		}
	}
}
