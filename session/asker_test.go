package session_test

import (
	"bytes"
	"fmt"
	"math"
	"slices"
	"testing"

	"muster/api"
	"muster/session"
)

// bodyOf is the body that tests have a request wait with.
func bodyOf(request int) string {
	return fmt.Sprint("body ", request)
}

// asker is one for which these requests wait.
func asker(id, next, acked int, requests ...int) api.Asker {
	a := api.Asker{Id: id, Next: next, Acked: acked}
	for _, r := range requests {
		a.Waits = append(a.Waits, api.Wait{Request: r, Body: []byte(bodyOf(r))})
	}
	return a
}

// askerCases are askers, and whether they are right.
func askerCases() map[string]struct {
	a    api.Asker
	want bool
} {
	type one = struct {
		a    api.Asker
		want bool
	}
	long := asker(1, 2, 0, 1)
	long.Waits[0].Body = make([]byte, mostBytes+1)
	return map[string]one{
		"nothing":                     {api.Asker{}, false},
		"a new one":                   {asker(1, 1, 0), true},
		"an empty Waits":              {api.Asker{Id: 1, Next: 1, Waits: []api.Wait{}}, true},
		"a body of no bytes":          {api.Asker{Id: 1, Next: 2, Waits: []api.Wait{{Request: 1}}}, true},
		"a body of any length":        {long, true},
		"the Id 0":                    {asker(0, 1, 0), false},
		"an Id below 0":               {asker(-1, 1, 0), false},
		"the greatest Id":             {asker(most, 1, 0), true},
		"an Id above":                 {asker(most+1, 1, 0), false},
		"the least Id there is":       {asker(math.MinInt, 1, 0), false},
		"the Next 0":                  {asker(1, 0, -1), false},
		"a Next below 0":              {asker(1, -1, -2), false},
		"the least Next":              {asker(1, math.MinInt, math.MaxInt), false},
		"the greatest Next":           {asker(1, most, most-1), true},
		"a Next above":                {asker(1, most+1, most), false},
		"a Next far above":            {asker(1, math.MaxInt, math.MaxInt-1), false},
		"one waits":                   {asker(1, 2, 0, 1), true},
		"two wait":                    {asker(1, 3, 0, 1, 2), true},
		"one between is answered":     {asker(1, 4, 0, 1, 3), true},
		"the first one is answered":   {asker(1, 4, 1, 2, 3), true},
		"the last one is answered":    {asker(1, 4, 0, 1, 2), true},
		"all are answered":            {asker(1, 4, 3), true},
		"the last one waits":          {asker(1, 4, 2, 3), true},
		"the greatest request waits":  {asker(1, most, most-2, most-1), true},
		"the greatest Next waits":     {asker(1, most, most-1, most), false},
		"Waits twice":                 {asker(1, 4, 0, 1, 1), false},
		"Waits twice, later":          {asker(1, 4, 0, 1, 2, 2), false},
		"Waits that fall":             {asker(1, 4, 1, 2, 1), false},
		"Waits that fall, Acked low":  {asker(1, 4, 0, 2, 1), false},
		"Waits that fall later":       {asker(1, 5, 0, 1, 4, 3), false},
		"the request 0":               {asker(1, 2, -1, 0), false},
		"the request 0 ahead":         {asker(1, 2, -1, 0, 1), false},
		"a request below 0":           {asker(1, 2, -2, -1), false},
		"a request at Next":           {asker(1, 4, 3, 4), false},
		"a later request at Next":     {asker(1, 4, 2, 3, 4), false},
		"a request above Next":        {asker(1, 4, 4, 5), false},
		"Acked one too low":           {asker(1, 4, 0, 2, 3), false},
		"Acked one too high":          {asker(1, 4, 2, 2, 3), false},
		"Acked too low, none waits":   {asker(1, 4, 2), false},
		"Acked too high, none waits":  {asker(1, 4, 4), false},
		"Acked below 0":               {asker(1, 1, -1), false},
		"the least Acked":             {asker(1, 1, math.MinInt), false},
		"the greatest Acked":          {asker(1, 1, math.MaxInt), false},
		"Acked that wraps round":      {asker(1, 2, math.MinInt, math.MinInt), false},
		"Acked 0, none waits":         {asker(1, 9, 0), false},
		"seven above Acked":           {asker(1, 8, 0, upTo(1, 7)...), true},
		"eight above Acked":           {asker(1, 9, 0, upTo(1, 8)...), true},
		"nine above Acked":            {asker(1, 10, 0, upTo(1, 9)...), false},
		"eight above, one waits":      {asker(1, 9, 0, 1), true},
		"nine above, one waits":       {asker(1, 10, 0, 1), false},
		"nine above, eight wait":      {asker(1, 10, 0, 1, 2, 3, 4, 6, 7, 8, 9), false},
		"many above":                  {asker(1, most, 0, 1), false},
		"eight above, at the end":     {asker(1, most, most-9, upTo(most-8, most-1)...), true},
		"nine above, at the end":      {asker(1, most, most-10, upTo(most-9, most-1)...), false},
		"eight above, first and last": {asker(1, 109, 100, 101, 108), true},
	}
}

// P9.1: RightAsker, with each edge of the chapter's words; asked twice it tells the same.
func TestRightAsker(t *testing.T) {
	for name, c := range askerCases() {
		before := cloneAsker(c.a)
		for range 2 {
			if got := session.RightAsker(c.a); got != c.want {
				t.Errorf("%s: RightAsker(%s) = %v", name, briefAsker(c.a), got)
			}
		}
		if !sameAsker(c.a, before) {
			t.Errorf("%s: changed: %s", name, briefAsker(c.a))
		}
	}
}

// isRightAsker is the chapter's words of a right asker, each asked for itself.
func isRightAsker(a api.Asker) bool {
	ok := a.Id >= 1 && a.Id <= most && a.Next >= 1 && a.Next <= most
	first := a.Next
	for i, w := range a.Waits {
		ok = ok && w.Request >= 1 && w.Request < a.Next
		for _, v := range a.Waits[:i] {
			ok = ok && v.Request < w.Request
		}
		first = min(first, w.Request)
	}
	return ok && a.Acked == first-1 && a.Next-a.Acked <= window+1
}

// P9.1, P9.4: all askers of few numbers, right and wrong: RightAsker tells which, and Ask and Take refuse the wrong ones.
func TestRightAskerOfAll(t *testing.T) {
	waits := [][]int{nil}
	for a := range 5 {
		waits = append(waits, []int{a})
		for b := range 5 {
			waits = append(waits, []int{a, b})
			for c := range 5 {
				waits = append(waits, []int{a, b, c})
			}
		}
	}
	for _, w := range waits {
		for id := range 2 {
			for next := range 6 {
				for acked := -1; acked <= next; acked++ {
					a := asker(id, next, acked, w...)
					if got := session.RightAsker(a); got != isRightAsker(a) {
						t.Fatalf("RightAsker(%s) = %v", briefAsker(a), got)
					}
					if !isRightAsker(a) {
						askRefused(t, a, nil, api.ErrArg)
						takeRefused(t, a, 1)
						continue
					}
					ask(t, a, "new")
					for request := -1; request <= next+1; request++ {
						take(t, a, request)
					}
				}
			}
		}
	}
}

// askRefused asks for an error of Ask, and for nothing beside it.
func askRefused(t *testing.T, a api.Asker, body []byte, want api.Errno) {
	t.Helper()
	before, b := cloneAsker(a), bytes.Clone(body)
	got, n, e := session.Ask(a, body)
	if !sameAsker(got, api.Asker{}) || n != 0 || e != want {
		t.Fatalf("Ask(%s, %d bytes) = %s, %d, %d; want nothing, %d", briefAsker(a), len(body), briefAsker(got), n, e, want)
	}
	if !sameAsker(a, before) || !bytes.Equal(b, body) {
		t.Fatalf("changed: %s", briefAsker(a))
	}
}

// takeRefused asks for ErrArg of Take, and for nothing beside it.
func takeRefused(t *testing.T, a api.Asker, request int) {
	t.Helper()
	before := cloneAsker(a)
	got, ok, e := session.Take(a, request)
	if !sameAsker(got, api.Asker{}) || ok || e != api.ErrArg {
		t.Fatalf("Take(%s, %d) = %s, %v, %d; want nothing, ErrArg", briefAsker(a), request, briefAsker(got), ok, e)
	}
	if !sameAsker(a, before) {
		t.Fatalf("changed: %s", briefAsker(a))
	}
}

// ask calls Ask of a right asker that has room, and holds all that it tells against the chapter.
func ask(t *testing.T, a api.Asker, body string) api.Asker {
	t.Helper()
	what := fmt.Sprintf("Ask(%s, %.20q)", briefAsker(a), body)
	before, b := cloneAsker(a), []byte(body)
	want := cloneAsker(a)
	want.Waits = append(want.Waits, api.Wait{Request: a.Next, Body: []byte(body)})
	want.Next = a.Next + 1
	got, n, e := session.Ask(a, b)
	if n != a.Next || e != api.OK || !sameAsker(got, want) {
		t.Fatalf("%s = %s, %d, %d; want %s", what, briefAsker(got), n, e, briefAsker(want))
	}
	if !session.RightAsker(got) {
		t.Fatalf("%s: not right: %s", what, briefAsker(got))
	}
	if !sameAsker(a, before) || string(b) != body {
		t.Fatalf("%s: changed: %s", what, briefAsker(a))
	}
	apart(t, what, spansOfAsker(a), spansOfAsker(got), spanOf(b))
	return got
}

// take calls Take of a right asker, and holds all that it tells against the chapter.
func take(t *testing.T, a api.Asker, request int) (api.Asker, bool) {
	t.Helper()
	what := fmt.Sprintf("Take(%s, %d)", briefAsker(a), request)
	before, want := cloneAsker(a), cloneAsker(a)
	waited := false
	want.Waits, want.Acked = nil, a.Next-1
	for _, w := range slices.Backward(before.Waits) {
		if w.Request == request {
			waited = true
		} else {
			want.Waits, want.Acked = append([]api.Wait{w}, want.Waits...), w.Request-1
		}
	}
	got, ok, e := session.Take(a, request)
	if ok != waited || e != api.OK || !sameAsker(got, want) {
		t.Fatalf("%s = %s, %v, %d; want %s, %v", what, briefAsker(got), ok, e, briefAsker(want), waited)
	}
	if !session.RightAsker(got) {
		t.Fatalf("%s: not right: %s", what, briefAsker(got))
	}
	if !sameAsker(a, before) {
		t.Fatalf("%s: changed: %s", what, briefAsker(a))
	}
	apart(t, what, spansOfAsker(a), spansOfAsker(got))
	return got, ok
}

// takeIs asks that Take tells this, and no error.
func takeIs(t *testing.T, a api.Asker, request int, waited bool, want api.Asker) api.Asker {
	t.Helper()
	got, ok := take(t, a, request)
	if ok != waited || !sameAsker(got, want) {
		t.Fatalf("Take(%s, %d) = %s, %v; want %s, %v", briefAsker(a), request, briefAsker(got), ok, briefAsker(want), waited)
	}
	return got
}

// P9.4: Begin, with ids that may be and such as may not.
func TestBegin(t *testing.T) {
	for _, id := range []int{1, 2, 5, 1 << 40, most - 1, most} {
		a, e := session.Begin(id)
		if e != api.OK || !sameAsker(a, asker(id, 1, 0)) || !session.RightAsker(a) {
			t.Errorf("Begin(%d) = %s, %d", id, briefAsker(a), e)
		}
	}
	for _, id := range wrongNumbers {
		a, e := session.Begin(id)
		if e != api.ErrArg || !sameAsker(a, api.Asker{}) {
			t.Errorf("Begin(%d) = %s, %d", id, briefAsker(a), e)
		}
	}
}

// P9.4: the chapter's second example.
func TestAskerExample(t *testing.T) {
	a, _ := session.Begin(5)
	a = ask(t, a, "x")
	a = ask(t, a, "y")
	if !sameAsker(a, api.Asker{Id: 5, Next: 3, Waits: []api.Wait{{Request: 1, Body: []byte("x")}, {Request: 2, Body: []byte("y")}}}) {
		t.Fatal(briefAsker(a))
	}
	left := api.Asker{Id: 5, Next: 3, Waits: []api.Wait{{Request: 1, Body: []byte("x")}}}
	a = takeIs(t, a, 2, true, left)
	a = takeIs(t, a, 2, false, left)
	takeIs(t, a, 1, true, asker(5, 3, 2))

	b, _ := session.Begin(5)
	for request := 1; request <= 8; request++ {
		b = ask(t, b, bodyOf(request))
		if request > 1 {
			b, _ = take(t, b, request)
		}
	}
	if !sameAsker(b, asker(5, 9, 0, 1)) {
		t.Fatal(briefAsker(b))
	}
	askRefused(t, b, nil, api.ErrBusy)
}

// P9.4: eight requests above Acked and one more, whichever of them wait; room again when the first one is answered, as far as it goes.
func TestAskBusy(t *testing.T) {
	full := asker(3, 9, 0, upTo(1, 8)...)
	a, _ := session.Begin(3)
	for request := 1; request <= 8; request++ {
		a = ask(t, a, bodyOf(request))
	}
	if !sameAsker(a, full) {
		t.Fatal(briefAsker(a))
	}
	for range 2 {
		askRefused(t, full, nil, api.ErrBusy)
		askRefused(t, full, make([]byte, mostBytes), api.ErrBusy)
	}
	for request := 2; request <= 8; request++ {
		got, _ := take(t, full, request)
		askRefused(t, got, nil, api.ErrBusy)
	}
	a = takeIs(t, full, 1, true, asker(3, 9, 1, upTo(2, 8)...))
	a = ask(t, a, bodyOf(9))
	askRefused(t, a, nil, api.ErrBusy)
	a, _ = take(t, a, 3)
	a, _ = take(t, a, 4)
	askRefused(t, a, nil, api.ErrBusy)
	a = takeIs(t, a, 2, true, asker(3, 10, 4, upTo(5, 9)...))
	for request := 10; request <= 12; request++ {
		a = ask(t, a, bodyOf(request))
	}
	askRefused(t, a, nil, api.ErrBusy)
}

// P9.4: bodies of none, of MaxFrame bytes and of one more.
func TestAskBodies(t *testing.T) {
	a, _ := session.Begin(1)
	big := bytes.Repeat([]byte("\x00ab\xff"), mostBytes)
	for _, size := range []int{0, 1, mostBytes - 1, mostBytes} {
		a = ask(t, a, string(big[:size]))
	}
	for _, size := range []int{mostBytes + 1, mostBytes + 2, 2 * mostBytes} {
		askRefused(t, a, big[:size], api.ErrLong)
	}
	got, n, e := session.Ask(a, nil)
	if n != 5 || e != api.OK || len(got.Waits) != 5 || len(got.Waits[4].Body) != 0 || len(got.Waits[3].Body) != mostBytes {
		t.Fatal(n, e)
	}
	take(t, got, 4)
}

// P9.4: the last request that there is, and none behind it; what waits can still be taken.
func TestAskAtTheEnd(t *testing.T) {
	a := ask(t, asker(7, most-1, most-2), bodyOf(most-1))
	if !sameAsker(a, asker(7, most, most-2, most-1)) {
		t.Fatal(briefAsker(a))
	}
	askRefused(t, a, nil, api.ErrFull)
	a = takeIs(t, a, most-1, true, asker(7, most, most-1))
	askRefused(t, a, nil, api.ErrFull)
	askRefused(t, a, make([]byte, mostBytes), api.ErrFull)
	takeIs(t, a, most, false, a)
	takeIs(t, a, most-1, false, a)
}

// P9.4, R2: Ask's errors, each ahead of those behind it.
func TestAskErrorsInOrder(t *testing.T) {
	long := make([]byte, mostBytes+1)
	busy := asker(7, 9, 0, upTo(1, 8)...)
	full := asker(7, most, most-1)
	both := asker(7, most, most-9, upTo(most-8, most-1)...)
	askRefused(t, busy, long, api.ErrLong)
	askRefused(t, full, long, api.ErrLong)
	askRefused(t, both, long, api.ErrLong)
	askRefused(t, both, nil, api.ErrBusy)
	askRefused(t, full, nil, api.ErrFull)
	for _, a := range []api.Asker{busy, full, both} {
		a.Id = 0
		askRefused(t, a, nil, api.ErrArg)
		askRefused(t, a, long, api.ErrArg)
	}
	askRefused(t, asker(7, 10, 0, upTo(1, 9)...), long, api.ErrArg)
	askRefused(t, asker(7, most+1, most), nil, api.ErrArg)
}

// P9.4, R2: wrong askers of each kind are refused by Ask and by Take.
func TestWrongAskers(t *testing.T) {
	for _, c := range askerCases() {
		if c.want {
			continue
		}
		askRefused(t, c.a, []byte("x"), api.ErrArg)
		for _, request := range []int{-1, 0, 1, 2, 3, 4, most} {
			takeRefused(t, c.a, request)
		}
	}
}

// P9.4: Take of the first, of a middle one and of the last one that waits, and of all.
func TestTake(t *testing.T) {
	a := asker(4, 9, 2, 3, 5, 6, 8)
	takeIs(t, a, 3, true, asker(4, 9, 4, 5, 6, 8))
	takeIs(t, a, 5, true, asker(4, 9, 2, 3, 6, 8))
	takeIs(t, a, 6, true, asker(4, 9, 2, 3, 5, 8))
	takeIs(t, a, 8, true, asker(4, 9, 2, 3, 5, 6))
	for _, order := range [][]int{{3, 5, 6, 8}, {8, 6, 5, 3}, {5, 3, 8, 6}, {6, 8, 3, 5}} {
		b := a
		for _, request := range order {
			b, _ = take(t, b, request)
			takeIs(t, b, request, false, b)
		}
		if !sameAsker(b, asker(4, 9, 8)) {
			t.Fatal(order, briefAsker(b))
		}
	}
	takeIs(t, asker(4, 9, 7, 8), 8, true, asker(4, 9, 8))
	takeIs(t, asker(4, 2, 0, 1), 1, true, asker(4, 2, 1))
}

// P9.4: Take of one that does not wait: answered already, never asked, no number at all; the asker is as it was.
func TestTakeNone(t *testing.T) {
	for _, a := range []api.Asker{asker(4, 1, 0), asker(4, 9, 2, 3, 5, 6, 8), asker(4, 9, 8), asker(most, most, most-1)} {
		for _, request := range append([]int{1, 2, 4, 7, 9, 10, most - 1, most}, wrongNumbers...) {
			takeIs(t, a, request, false, a)
		}
	}
}

// P9.1, P9.4: long scripts of Ask and Take, held against the chapter behind each call.
func TestAskerScripts(t *testing.T) {
	busy, full := 0, 0
	for seed := range 60 {
		roll := dice(seed)
		a, _ := session.Begin(1 + roll.below(9))
		if seed%3 == 0 {
			a.Next, a.Acked = most-40, most-41
		}
		for i := range 300 {
			if roll.below(2) == 0 {
				take(t, a, roll.below(5))
				a, _ = take(t, a, a.Acked+roll.below(11))
				continue
			}
			switch {
			case a.Next-1-a.Acked == window:
				askRefused(t, a, nil, api.ErrBusy)
				busy++
			case a.Next == most:
				askRefused(t, a, nil, api.ErrFull)
				full++
			default:
				a = ask(t, a, fmt.Sprint(seed, " ", i))
			}
		}
	}
	if busy == 0 || full == 0 {
		t.Fatal("never busy or never full: the scripts are wrong", busy, full)
	}
}
