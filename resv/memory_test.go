package resv_test

import (
	"cmp"
	"reflect"
	"runtime"
	"slices"
	"sync"
	"testing"
	"unsafe"

	"muster/api"
	"muster/resv"
)

// three is a right list of the chapter's config.
func three() []api.Resv {
	return of(held("b", 1, 0, 30, "bio", "lab"), held("m", 2, 30, 40, "all"), x())
}

// fresh is one that can be added to three, in its midst.
func fresh() api.Resv { return held("f", 1, 30, 50, "lab", "bio", "all") }

// askAll makes all calls, with arguments that are answered and with some that are refused.
func askAll(c api.Config, l []api.Resv, r api.Resv) {
	resv.Right(c, l)
	for _, now := range of[int64](-1, 0, 19, 20, 35, maxTime) {
		resv.Add(c, l, r, now)
		resv.Expire(l, now)
	}
	for _, name := range of("b", "m", "x", "f", "?", "") {
		resv.Drop(l, name)
	}
	for _, account := range of("all", "phys", "bio", "lab", "x", "") {
		resv.Blocks(c, l, account)
		resv.Meets(c, r, by(account), 3, 0, 99)
		for _, other := range l {
			resv.Meets(c, other, by(account), 3, 0, 99)
		}
	}
}

// roomy is l with other elements ahead of it and behind it, in its spare room.
func roomy[T any](l []T, other T) (whole, part []T) {
	whole = append(whole, other, other, other)
	whole = append(whole, l...)
	whole = append(whole, other, other, other)
	return whole, whole[3 : 3+len(l)]
}

// handed is all lists that a call is handed, each with what stands ahead of it and behind it.
type handed struct {
	cores    []int
	parts    []api.Part
	accounts []api.Account
	qos      []api.Qos
	resvs    []api.Resv
	users    [][]string
}

// handing is what the calls are handed, and all that they could change of it.
func handing(c api.Config, l []api.Resv, r api.Resv) (h handed, handedC api.Config, handedL []api.Resv, handedR api.Resv) {
	l = anew(l)
	for i := range l {
		var whole []string
		whole, l[i].Accounts = roomy(l[i].Accounts, "?")
		h.users = append(h.users, whole)
	}
	whole, users := roomy(r.Accounts, "!")
	h.users, r.Accounts = append(h.users, whole), users
	h.cores, c.Cores = roomy(c.Cores, -7)
	h.parts, c.Parts = roomy(c.Parts, api.Part{Name: "?", MaxLimit: -7})
	h.accounts, c.Accounts = roomy(c.Accounts, child("?", "!"))
	h.qos, c.Qos = roomy(c.Qos, api.Qos{Name: "?"})
	h.resvs, l = roomy(l, held("?", 9, -7, -9, "!", "!"))
	return h, c, l, r
}

// R3: what is handed in is not changed, nor its spare room, nor what stands ahead of it.
func TestHandedInIsLeft(t *testing.T) {
	lists := wrongLists()
	for name, l := range rightLists() {
		lists[name] = l
	}
	lists["three"] = three()
	for name, l := range lists {
		for _, r := range of(fresh(), x(), held("a", 1, 200, 300, "lab", "bio"), held("z", 1, 200, 300, "phys", "lab", "bio"), held("z", 3, 0, 99, "bio"), api.Resv{}) {
			h, c, handedL, handedR := handing(chapters(), l, r)
			before, _, _, _ := handing(chapters(), l, r)
			askAll(c, handedL, handedR)
			if !reflect.DeepEqual(h, before) || !sameResv(handedR, r) {
				t.Errorf("%s, with %q: changed", name, r.Name)
			}
		}
	}
}

// spoil puts others into each place of l, of its accounts, and of their spare room.
func spoil(l []api.Resv) {
	for _, r := range l {
		spoilNames(r.Accounts)
	}
	l = l[:cap(l)]
	for i := range l {
		l[i] = held("spoilt", 9, -7, -9, "?")
	}
}

// spoilNames puts another name into each place of l, and into its spare room.
func spoilNames(l []string) {
	l = l[:cap(l)]
	for i := range l {
		l[i] = "spoilt"
	}
}

// spoilBlocks puts another block into each place of l, and into its spare room.
func spoilBlocks(l []api.Block) {
	l = l[:cap(l)]
	for i := range l {
		l[i] = api.Block{Nodes: 9, From: -7, To: -9}
	}
}

// told is what the calls tell of three and fresh.
type told struct {
	with, without, left []api.Resv
	blocks              []api.Block
}

// tell asks all calls that tell lists.
func tell(t *testing.T, l []api.Resv, r api.Resv) told {
	t.Helper()
	with, e := resv.Add(chapters(), l, r, 5)
	without, f := resv.Drop(l, "m")
	if e != api.OK || f != api.OK {
		t.Fatalf("%d, %d", e, f)
	}
	return told{with, without, resv.Expire(l, 25), resv.Blocks(chapters(), l, "phys")}
}

// check holds what was told against what is to be told of three and fresh.
func (x told) check(t *testing.T, what string) {
	t.Helper()
	l := three()
	block := api.Block{Nodes: 1, To: 30}
	if !same(x.with, of(l[0], fresh(), l[1], l[2])) || !same(x.without, of(l[0], l[2])) || !same(x.left, l[:2]) || !slices.Equal(x.blocks, of(block)) {
		t.Fatalf("%s: %v", what, x)
	}
}

// R3: what was handed in is not kept: whatever becomes of it, earlier answers and later calls tell the same.
func TestHandedInIsNotKept(t *testing.T) {
	for range 3 {
		l, r := three(), fresh()
		first := tell(t, l, r)
		first.check(t, "at first")
		spoil(l)
		spoilNames(r.Accounts)
		first.check(t, "what was handed in is spoilt")
		if _, e := resv.Drop(l, "m"); e != api.ErrName || resv.Right(chapters(), l) {
			t.Errorf("it is another now: %v, %d", l, e)
		}
		if _, e := resv.Add(chapters(), nil, r, 5); e != api.ErrArg {
			t.Errorf("it is another now: %v, %d", r, e)
		}
		tell(t, three(), fresh()).check(t, "again")
	}
}

// R3: what was told is the caller's own: changed, it changes nothing else that was told, nor what was handed in.
func TestToldIsNotKept(t *testing.T) {
	l, r := three(), fresh()
	for range 3 {
		a, b := tell(t, l, r), tell(t, l, r)
		spoil(a.with)
		spoil(a.without)
		spoil(a.left)
		spoilBlocks(a.blocks)
		b.check(t, "what was told is spoilt")
		if !same(l, three()) || !sameResv(r, fresh()) {
			t.Fatalf("what was handed in is %v, %v", l, r)
		}
	}
}

// reach is where a list's memory begins and ends, its spare room too.
type reach struct{ from, to uintptr }

func reachOf[T any](l []T) reach {
	var one T
	from := uintptr(unsafe.Pointer(unsafe.SliceData(l)))
	return reach{from, from + uintptr(cap(l))*unsafe.Sizeof(one)}
}

// R3: no two lists of answers share memory, nor any with what was handed in, nor the accounts of one and another; spare room too.
func TestListsAreApart(t *testing.T) {
	var all []reach
	var kept [][]api.Resv // so that no memory is let go, and used again
	var keptBlocks [][]api.Block
	note := func(l []api.Resv) {
		kept = append(kept, l)
		all = append(all, reachOf(l))
		for _, r := range l {
			all = append(all, reachOf(r.Accounts))
		}
	}
	l, r, full := three(), fresh(), row(maxResvs-1, "bio")
	last := held("z", 2, 0, 1, "bio", "lab")
	note(l)
	note(of(r))
	note(full)
	note(of(last))
	for range 3 {
		x := tell(t, l, r)
		note(x.with)
		note(x.without)
		note(x.left)
		keptBlocks = append(keptBlocks, x.blocks)
		all = append(all, reachOf(x.blocks))
		note(resv.Expire(l, -1))
		with, e := resv.Add(chapters(), full, last, 0)
		without, f := resv.Drop(full, numbered(0))
		if e != api.OK || f != api.OK {
			t.Fatalf("%d, %d", e, f)
		}
		note(with)
		note(without)
		note(resv.Expire(full, 70))
	}
	slices.SortFunc(all, func(a, b reach) int { return cmp.Compare(a.from, b.from) })
	for i := 1; i < len(all); i++ {
		if all[i-1].to > all[i].from {
			t.Fatalf("two lists share memory: %v, %v", all[i-1], all[i])
		}
	}
	runtime.KeepAlive(kept)
	runtime.KeepAlive(keptBlocks)
}

// R6: no list and the empty one are the same.
func TestEmptyAndNone(t *testing.T) {
	c := chapters()
	for _, l := range of(nil, of[api.Resv]()) {
		with, e := resv.Add(c, l, x(), 0)
		left, f := resv.Drop(l, "x")
		if !resv.Right(c, l) || e != api.OK || !same(with, of(x())) || f != api.ErrName || left != nil || len(resv.Expire(l, 0)) != 0 || len(resv.Blocks(c, l, "bio")) != 0 {
			t.Errorf("%v: %v, %d, %v, %d", l, with, e, left, f)
		}
	}
	for _, who := range of(nil, of[string]()) {
		r := held("r", 1, 0, 9, who...)
		r.Accounts = who
		_, e := resv.Add(c, nil, r, 0)
		if resv.Right(c, of(r)) || e != api.ErrArg || len(resv.Blocks(c, of(r), "bio")) != 0 || resv.Meets(c, r, by("bio"), 1, 0, 9) || len(resv.Expire(of(r), 0)) != 1 {
			t.Errorf("%v: they are told apart", who)
		}
	}
}

// R4: answers hang on nothing but the arguments: many callers of one config and one list at one time are told the same as one.
func TestManyCallersAtOnce(t *testing.T) {
	d := dice(10)
	c := d.config()
	l := d.resvs(c, maxResvs)
	for len(l) < 6 || len(c.Accounts) < 4 {
		c = d.config()
		l = d.resvs(c, maxResvs)
	}
	var group sync.WaitGroup
	for k := range 8 {
		group.Add(1)
		go func() {
			defer group.Done()
			d := dice(k)
			for range 300 {
				r, account := d.resv(c), one(&d, c.Accounts).Name
				name := one(&d, of(r.Name, one(&d, l).Name))
				with, e := resv.Add(c, l, r, 3)
				wantWith, wantE := addOf(c, l, r, 3)
				left, f := resv.Drop(l, name)
				wantLeft, wantF := dropOf(l, name)
				if e != wantE || f != wantF || !same(with, wantWith) || !same(left, wantLeft) || !same(resv.Expire(l, r.To), expireOf(l, r.To)) || !slices.Equal(resv.Blocks(c, l, account), blocksOf(c, l, account)) || !resv.Right(c, l) {
					t.Errorf("%v, %q, %q: %v, %d, %v, %d", r, name, account, with, e, left, f)
					return
				}
			}
		}()
	}
	group.Wait()
}

// R1: long lists and long texts are answered, too.
func TestLongArgumentsEnd(t *testing.T) {
	c := chapters()
	text := string(slices.Repeat([]byte("a"), 1<<20))
	many := append(slices.Repeat(of(x()), 1<<16), held(text, 2, 0, 99, "bio"))
	crowd := held("r", 2, 0, 9, slices.Repeat(of("bio"), 1<<16)...)
	if resv.Right(c, many) || resv.Right(c, of(crowd)) {
		t.Error("many: they are right")
	}
	_, e := resv.Add(c, many, x(), 0)
	_, f := resv.Add(c, nil, crowd, 0)
	_, g := resv.Add(c, nil, held(text, 2, 0, 99, "bio"), 0)
	if e != api.ErrConfig || f != api.ErrArg || g != api.ErrArg {
		t.Errorf("%d, %d, %d", e, f, g)
	}
	left, h := resv.Drop(many, text)
	if h != api.OK || len(left) != 1<<16 || len(resv.Expire(many, 20)) != 1 {
		t.Errorf("%d are left, %d", len(left), h)
	}
	if len(resv.Blocks(c, many, "bio")) != 1<<16 || len(resv.Blocks(c, of(crowd), text)) != 1 || !resv.Meets(c, crowd, by("phys"), 2, 8, 99) || resv.Meets(c, crowd, by("bio"), 2, 8, 99) {
		t.Error("blocks, meets")
	}
}
