package page_test

import (
	"math/rand"
	"slices"
	"strconv"
	"testing"

	"coupon/api"
	"coupon/page"
)

// step makes one change by chance, of a page and of what it should have.
func step(t *testing.T, c *rand.Rand, p api.Page, x plain) (api.Page, plain) {
	t.Helper()
	slot := c.Intn(x.slots() + 2)
	was, is := x.records[slot]
	r := some(c.Intn(1+c.Intn(60)), c.Intn(200))
	var e, should api.Errno
	n, y := p, x
	switch c.Intn(5) {
	case 0, 1:
		y = x.with(x.free(), r)
		if len(r) > x.room() {
			should = api.ErrFull
		}
		n, _, e = page.Lay(p, []byte(r))
	case 2:
		y = x.with(slot, r)
		if !is {
			should = api.ErrNone
		} else if 4*x.slots()+x.used()-len(was)+len(r) > 500 {
			should = api.ErrFull
		}
		n, e = page.Put(p, slot, []byte(r))
	case 3:
		y = x.without(slot)
		if !is {
			should = api.ErrNone
		}
		n, e = page.Take(p, slot)
	case 4:
		y = x.linked(c.Intn(1 << 31))
		n, e = page.Link(p, y.next)
	}
	want(t, "a change", e, should)
	if should != api.OK {
		return p, x
	}
	return n, y
}

// P5.4: a page that came of changes may be, and has just what was laid, and not taken out: byte by byte what the document says.
func TestChanges(t *testing.T) {
	c := rand.New(rand.NewSource(5))
	for kind := range 5 {
		for range 20 {
			x := plainOf(kind)
			p, e := page.New(kind)
			want(t, "New", e, api.OK)
			for range 200 {
				p, x = step(t, c, p, x)
				wantPage(t, "a page", p, api.OK, x)
				want(t, "May", page.May(p), true)
				want(t, "Kind", page.Kind(p), kind)
				want(t, "Next", page.Next(p), x.next)
				want(t, "Slots", page.Slots(p), x.slots())
				want(t, "Room", page.Room(p), x.room())
				if !slices.Equal(met(p), x.pairs()) {
					t.Fatalf("All is %v, not %v", met(p), x.pairs())
				}
			}
		}
	}
}

// P5.4: two pages that have the same are the same bytes, whatever was done to them.
func TestSameBytes(t *testing.T) {
	c := rand.New(rand.NewSource(6))
	for range 100 {
		x := plainOf(1, times(c.Intn(20), c.Intn(15))...)
		p, _ := page.New(1)
		for _, slot := range c.Perm(x.slots()) {
			for page.Slots(p) <= slot {
				p, _ = lay(t, p, "x")
			}
			var e api.Errno
			p, e = page.Put(p, slot, []byte(x.records[slot]))
			want(t, "Put", e, api.OK)
		}
		wantPage(t, "records that came in another order", p, api.OK, x)
		q, slot := lay(t, p, "another one")
		q, e := page.Take(q, slot)
		wantPage(t, "a record that came, and went", q, e, x)
	}
}

// P5.4: what is laid is where Lay says, and nothing else is touched.
func TestLayThenGet(t *testing.T) {
	p, _ := page.New(1)
	var kept []pair
	for i := 0; page.Room(p) >= i; i++ {
		r := some(i, i)
		var slot int
		p, slot = lay(t, p, r)
		kept = append(kept, pair{slot, r})
		if !slices.Equal(met(p), kept) {
			t.Fatalf("behind %d records All is %v", i+1, met(p))
		}
	}
	want(t, "how many", len(kept), 28)
	for _, k := range kept {
		b, e := page.Get(p, k.slot)
		want(t, "Get", e, api.OK)
		want(t, "the record", string(b), k.record)
	}
}

// use calls all, of any page and slot.
func use(p api.Page, slot int, r []byte) {
	page.May(p)
	page.Kind(p)
	page.Next(p)
	page.Room(p)
	page.Slots(p)
	page.Link(p, slot)
	page.Lay(p, r)
	page.Put(p, slot, r)
	page.Take(p, slot)
	page.Get(p, slot)
	for range page.All(p) {
	}
}

// P0.6: whatever bytes a page has, no call panics, and what May refuses, all refuse.
func TestAnyBytes(t *testing.T) {
	c := rand.New(rand.NewSource(7))
	var p api.Page
	for range 20000 {
		c.Read(p[:])
		if c.Intn(4) > 0 {
			clear(p[c.Intn(512):])
			p[0], p[1], p[2], p[3], p[6], p[7], p[8] = byte(c.Intn(5)), 0, 0, byte(c.Intn(4)), 0, 0, 0
		}
		use(p, c.Intn(6)-1, make([]byte, c.Intn(420)))
		want(t, "May", page.May(p), plainMay(p))
	}
}

// P0.6, P5.1: pages of which some bytes are others: what may be is what it says, what may not be is refused by all.
func TestBrokenPages(t *testing.T) {
	c := rand.New(rand.NewSource(8))
	all := fitPages()
	names := make([]string, 0, len(all))
	for what := range all {
		names = append(names, what)
	}
	slices.Sort(names)
	for range 20000 {
		what := names[c.Intn(len(names))]
		p := all[what]
		for range 1 + c.Intn(3) {
			p[c.Intn([]int{12, 40, 512}[c.Intn(3)])] = byte(c.Intn(256))
		}
		use(p, c.Intn(130)-2, make([]byte, c.Intn(420)))
		if page.May(p) != plainMay(p) {
			t.Fatalf("%s, broken: May is %v", what, page.May(p))
		}
		n, e := page.Link(p, 7)
		if !plainMay(p) {
			wantRefused(t, what+", broken: Link", n, e, api.ErrBytes)
			continue
		}
		want(t, what+", broken: Link", e, api.OK)
		n, e = page.Link(n, page.Next(p))
		want(t, what+", broken: Link back", e, api.OK)
		want(t, what+", broken: the page", n, p)
	}
}

// P0.6: of whatever slot, next, kind, no call panics.
func TestAnyNumbers(t *testing.T) {
	for what, p := range fitPages() {
		for _, n := range slices.Concat(noSlots(), noNexts(), noKinds()) {
			page.New(n)
			use(p, n, nil)
			use(p, n, make([]byte, 1000))
			use(api.Page{}, n, nil)
			if _, e := page.Get(p, n); e != api.ErrNone && (n < 0 || n > 124) {
				t.Errorf("%s: Get(%s) is %v", what, strconv.Itoa(n), e)
			}
		}
	}
}
