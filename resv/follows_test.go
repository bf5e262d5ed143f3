package resv_test

import (
	"slices"
	"testing"

	"muster/api"
	"muster/profile"
	"muster/resv"
)

// P17.4: from the empty list on, through any calls, each list that is told is right, and stands as one that is kept by hand.
func TestListsStayRight(t *testing.T) {
	d := dice(5)
	added, dropped, expired, full := 0, 0, 0, 0
	for range 400 {
		c := d.config()
		var l []api.Resv
		now := int64(0)
		for range 60 {
			var next []api.Resv
			err := api.OK
			switch d.below(8) {
			case 0:
				name := d.name()
				if len(l) > 0 {
					name = one(&d, of(name, one(&d, l).Name))
				}
				if next, err = resv.Drop(l, name); err == api.OK {
					dropped++
				}
			case 1:
				now += int64(d.below(4))
				next = resv.Expire(l, now)
				expired += len(l) - len(next)
			default:
				r := d.resv(c)
				if d.below(4) > 0 { // a short one, at a time of its own
					r.From = now + int64(d.below(200))
					r.To = r.From + 1
				}
				if next, err = resv.Add(c, l, r, now); err == api.OK {
					added++
				}
			}
			if err != api.OK {
				continue
			}
			if !resv.Right(c, next) || !isRight(c, next) {
				t.Fatalf("%v, %v: what is told is not right: %v", c, l, next)
			}
			l = next
			if len(l) == maxResvs {
				full++
			}
		}
	}
	if added < 4000 || dropped < 500 || expired < 300 || full < 100 {
		t.Errorf("the test is wrong: %d are added, %d dropped, %d expired, %d lists full", added, dropped, expired, full)
	}
}

// P17.4: of any right list, whatever name is dropped, whenever it expires.
func TestWhatIsToldIsRight(t *testing.T) {
	d := dice(6)
	for range 5000 {
		c := d.config()
		l := d.resvs(c, maxResvs)
		for _, r := range l {
			left, err := resv.Drop(l, r.Name)
			if err != api.OK || !resv.Right(c, left) {
				t.Fatalf("Drop(%v, %q) = %v, %d", l, r.Name, left, err)
			}
			back, err := resv.Add(c, left, r, 0)
			if err != api.OK || !same(back, l) {
				t.Fatalf("%v without and again with %q: %v, %d", l, r.Name, back, err)
			}
			for _, now := range of(r.From, r.To-1, r.To) {
				if left := resv.Expire(l, now); !resv.Right(c, left) || slices.ContainsFunc(left, func(other api.Resv) bool { return sameResv(other, r) }) != (now < r.To) {
					t.Fatalf("Expire(%v, %d) = %v", l, now, left)
				}
			}
		}
	}
}

// P17.4: a window that keeps out of all blocks of an account meets no reservation, and one that does not meets one.
func TestWindowsOutOfBlocksMeetNone(t *testing.T) {
	d := dice(7)
	out, in := 0, 0
	for range 20000 {
		c := d.config()
		l := d.resvs(c, maxResvs)
		account := one(&d, c.Accounts).Name
		blocks := resv.Blocks(c, l, account)
		on := d.nodes(len(c.Cores))
		from, to := d.window()
		free := !slices.ContainsFunc(blocks, func(b api.Block) bool {
			return sharesNode(b.Nodes, on) && sharesTime(b.From, b.To, from, to)
		})
		meets := slices.ContainsFunc(l, func(r api.Resv) bool { return resv.Meets(c, r, by(account), on, from, to) })
		if free == meets {
			t.Fatalf("%v, %v, %q: %b from %d to %d: out of all blocks %v, meets one %v", c, l, account, on, from, to, free, meets)
		}
		if free {
			out++
		} else {
			in++
		}
	}
	if out < 3000 || in < 3000 {
		t.Errorf("the test is wrong: %d are out, %d in", out, in)
	}
}

// P17.4: where profile.Fit puts a job that keeps out of its account's blocks, no reservation is met, at its first place of all.
func TestPlacesOutOfBlocksMeetNone(t *testing.T) {
	d := dice(8)
	waits := 0
	for range 3000 {
		c := d.config()
		l := d.resvs(c, maxResvs)
		account := one(&d, c.Accounts).Name
		free, err := profile.New(c.Cores)
		if err != api.OK {
			t.Fatalf("%v: %d", c, err)
		}
		a := api.Ask{Count: 1 + d.below(len(c.Cores)), Cores: 1, Limit: int64(1 + d.below(9)), Nodes: 1<<len(c.Cores) - 1, Blocks: resv.Blocks(c, l, account)}
		at, on, err := profile.Fit(free, a)
		if err == api.ErrOver { // blocks up to the end of time
			continue
		}
		if err != api.OK {
			t.Fatalf("%v, %v: %d", c, a, err)
		}
		if at > 0 {
			waits++
		}
		for _, r := range l {
			if resv.Meets(c, r, by(account), on, at, at+a.Limit) {
				t.Fatalf("%v, %q: at %d on %b, for %d, it meets %v", c, account, at, on, a.Limit, r)
			}
		}
	}
	if waits < 300 {
		t.Errorf("the test is wrong: %d wait for a reservation", waits)
	}
}

// P17.4: an account that a reservation admits is never blocked by it, nor is one below that.
func TestAdmittedAreNotBlocked(t *testing.T) {
	d := dice(9)
	for range 5000 {
		c := d.config()
		r := d.resv(c)
		on, from, to := r.Nodes, r.From, r.To
		for _, a := range c.Accounts {
			is := admitted(c.Accounts, r.Accounts, a.Name)
			blocks := resv.Blocks(c, of(r), a.Name)
			if is != (len(blocks) == 0) || is == resv.Meets(c, r, by(a.Name), on, from, to) {
				t.Fatalf("%v, %v: %q is admitted %v: %v", c, r, a.Name, is, blocks)
			}
		}
		for _, name := range r.Accounts {
			if len(resv.Blocks(c, of(r), name)) > 0 || resv.Meets(c, r, by(name), on, from, to) {
				t.Fatalf("%v, %v: %q is blocked", c, r, name)
			}
		}
	}
}
