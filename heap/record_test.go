package heap_test

import (
	"slices"
	"testing"

	"coupon/api"
)

// P7.2: a record of up to 399 bytes stands in its cell, behind a 0.
func TestLayShort(t *testing.T) {
	for _, long := range []int{0, 1, 2, 100, 398, 399} {
		v := begun(t, 4)
		want(t, "Lay", v.lay(some(long, 1)), api.Place{Page: 1})
		v.wantAsPlain("laid")
		x, _ := v.p.Get(1)
		want(t, "the page of records", x, slotted(1, 0, "\x00"+some(long, 1)))
		x, _ = v.p.Get(0)
		want(t, "the first page", x, firstPage(2, 0, 0, 1, 0))
	}
	v := begun(t, 4)
	v.lay("\x00")
	v.lay("\x01\x00\x00\x01\x90\x00\x00\x00\x02")
	v.lay(string(make([]byte, 50)))
	v.wantAsPlain("noughts, and what might be a long record's cell")
}

// P7.2: a longer one stands in parts of 400 bytes, that are given out from the last one to the first one, ahead of a new page of records.
func TestLayLong(t *testing.T) {
	for _, long := range []int{400, 401, 799, 800, 801, 1199, 1200, 1201, 5000, 19999, 20000} {
		v := begun(t, 60)
		parts := (long + 399) / 400
		want(t, "Lay", v.lay(some(long, 2)), api.Place{Page: parts + 1})
		v.wantAsPlain("laid")
		x, _ := v.p.Get(parts + 1)
		want(t, "the page of records", x, slotted(1, 0, longCell(long, parts)))
		x, _ = v.p.Get(1)
		want(t, "the last part", x, slotted(2, 0, some(long, 2)[400*(parts-1):]))
		want(t, "Room", v.h.Room(), 59-parts-1)
	}
	v := begun(t, 60)
	v.lay("one")
	want(t, "Lay where a page of records has room", v.lay(some(900, 1)), api.Place{Page: 1, Slot: 1})
	x, _ := v.p.Get(4)
	want(t, "the first part", x, slotted(2, 3, some(900, 1)[:400]))
	x, _ = v.p.Get(3)
	want(t, "the next part", x, slotted(2, 2, some(900, 1)[400:800]))
	x, _ = v.p.Get(2)
	want(t, "the last part", x, slotted(2, 0, some(900, 1)[800:]))
	v.wantAsPlain("laid")
}

// P7.2: the example: a pool of 5 pages has room for 4; a record of 1000 bytes takes them.
func TestExample(t *testing.T) {
	v := begun(t, 5)
	want(t, "Room", v.h.Room(), 4)
	v.lay(some(1000, 1))
	want(t, "Room", v.h.Room(), 0)
	v.wantAsPlain("the example")
}

// P7.2: a cell is laid into the first page of records that has room, in their order, in its first empty slot; else into a new page, that is the first one then.
func TestLayWhere(t *testing.T) {
	v := begun(t, 20)
	a := v.lay(some(300, 1)) // page 1: 512 - 12 - 4 - 301 are left, a slot and 191 bytes
	b := v.lay(some(300, 2)) // page 2, ahead of it
	c := v.lay(some(300, 3)) // page 3
	want(t, "the third page", c, api.Place{Page: 3})
	x, _ := v.p.Get(3)
	want(t, "its next", x, slotted(1, 2, "\x00"+some(300, 3)))
	want(t, "Lay, where all have room", v.lay(some(100, 4)), api.Place{Page: 3, Slot: 1})
	want(t, "Lay, just where there is room", v.lay(some(190, 5)), api.Place{Page: 2, Slot: 1})
	want(t, "Lay, where the last one has room", v.lay(some(150, 6)), api.Place{Page: 1, Slot: 1})
	want(t, "Lay, where the first one has room", v.lay(some(80, 7)), api.Place{Page: 3, Slot: 2})
	want(t, "Lay of an empty record", v.lay(""), api.Place{Page: 3, Slot: 3})
	want(t, "Lay of a long one's cell", v.lay(some(400, 8)), api.Place{Page: 1, Slot: 2})
	v.wantAsPlain("laid")
	v.take(a)
	v.take(c)
	want(t, "Lay in an empty slot", v.lay("one"), c)
	want(t, "Lay in an empty slot of the last page", v.lay(some(290, 9)), api.Place{Page: 3, Slot: 4})
	want(t, "Lay in the first empty slot", v.lay(some(299, 9)), a)
	v.wantAsPlain("laid in empty slots")
	v.take(b)
	want(t, "Lay of a byte more than there is room for", v.lay(some(301, 1)), api.Place{Page: 5})
	want(t, "Lay of just as many", v.lay(some(300, 1)), b)
	v.wantAsPlain("a new page of records")
}

// P7.2: many short records fill pages, each one's place stays.
func TestLayMany(t *testing.T) {
	v := begun(t, 12)
	for i := range 300 {
		v.lay(some(i%13, i%250))
	}
	v.wantAsPlain("many")
	for _, x := range v.as.pairs() {
		if x.at.Slot%3 != 0 {
			v.take(x.at)
		}
	}
	v.wantAsPlain("fewer")
	for i := range 200 {
		v.lay(some(i%5, i))
	}
	v.wantAsPlain("many again")
}

// P7.2: a record of more than 20000 bytes is ErrLong, where too few pages are left ErrFull; nothing is changed.
func TestLayErrors(t *testing.T) {
	v := begun(t, 54)
	v.lay(some(300, 1))
	v.give()
	v.back(v.give())
	for _, long := range []int{20001, 20400, 65536, 100000} {
		at, e := v.h.Lay(make([]byte, long))
		want(t, "Lay of too long a record", at, api.Place{})
		v.wantRefused("Lay of too long a record", e, api.ErrLong)
	}
	v.lay(some(20000, 1))
	want(t, "just one page is left", v.h.Room(), 1)
	for _, long := range []int{401, 800, 20000} {
		at, e := v.h.Lay(make([]byte, long))
		want(t, "Lay of one that needs more", at, api.Place{})
		v.wantRefused("Lay of one that needs more", e, api.ErrFull)
	}
	_, e := v.h.Lay(make([]byte, 20001))
	v.wantRefused("too long a record, where no pages are left", e, api.ErrLong)
	v.lay(some(400, 4))
	v.lay(some(60, 4))
	want(t, "no page is left", v.h.Room(), 0)
	for _, long := range []int{300, 399, 400, 2000} {
		at, e := v.h.Lay(make([]byte, long))
		want(t, "Lay where nothing is left", at, api.Place{})
		v.wantRefused("Lay where nothing is left", e, api.ErrFull)
	}
	v.lay("there is room in a page of records")
	v.wantAsPlain("room in a page of records")
}

// P7.2: a record needs just its parts, and, where no page of records has room, one more.
func TestLayJust(t *testing.T) {
	for room := 1; room <= 6; room++ {
		for _, long := range []int{10, 400, 401, 801, 1201, 1601, 2001} {
			for _, old := range []string{"", some(399, 1), "one"} {
				v := begun(t, 8)
				if old != "" {
					v.lay(old)
				}
				for v.as.room() > room {
					v.give()
				}
				v.lay(some(long, 3))
				v.wantAsPlain("as many as there are, or not")
			}
		}
	}
}

// P7.2: Get is the record, in new memory, and nothing of it is changed by what is done to it.
func TestGet(t *testing.T) {
	v := begun(t, 20)
	for _, long := range []int{0, 1, 399, 400, 1500} {
		handed := []byte(some(long, 9))
		at, e := v.h.Lay(handed)
		want(t, "Lay", e, api.OK)
		wantText(t, "what was handed in", handed, some(long, 9))
		clear(handed)
		wantGet(t, "what was handed in is another one", v.h, at, some(long, 9))
		a, _ := v.h.Get(at)
		b, _ := v.h.Get(at)
		clear(a)
		_ = append(a, "more"...)
		wantText(t, "another copy", b, some(long, 9))
		wantGet(t, "a copy was changed", v.h, at, some(long, 9))
	}
}

// P7.2: a place without a record is ErrNone, and nothing is changed.
func TestNoRecord(t *testing.T) {
	v := begun(t, 12)
	v.lay("one")
	a := v.lay("two")
	v.lay(some(900, 3))
	v.take(a)
	b, c := v.give(), v.give()
	v.back(b)
	x := slotted(3, 0, "\x00a record of the caller's", "\x00x")
	want(t, "Put", v.p.Put(c, x), api.OK)
	v.as.given[c] = x
	var places []api.Place
	for _, n := range append(noPages(12), 0, 2, 3, 4, b, c, 7, 8, 11) {
		places = append(places, api.Place{Page: n}, api.Place{Page: n, Slot: 1}, api.Place{Page: n, Slot: -1})
	}
	for _, slot := range append(noSlots(), 1, 3, 4) {
		places = append(places, api.Place{Page: 1, Slot: slot})
	}
	for _, at := range places {
		b, e := v.h.Get(at)
		want(t, "Get of no record", e, api.ErrNone)
		want(t, "Get of no record", len(b), 0)
		want(t, "Take of no record", v.h.Take(at), api.ErrNone)
		is, e := v.h.Put(at, []byte("new"))
		want(t, "Put of no record", e, api.ErrNone)
		want(t, "Put of no record", is, api.Place{})
		_, e = v.h.Put(at, make([]byte, 20001))
		want(t, "Put of too long a record", e, api.ErrLong)
		_, e = v.h.Put(at, make([]byte, 20000))
		want(t, "Put of no record, where pages are too few", e, api.ErrNone)
	}
	v.wantAsPlain("no record")
}

// P7.2: Put stands in the same place where its page has room with the old one gone, else it is laid; what comes back does so ahead of what is given out.
func TestPut(t *testing.T) {
	v := begun(t, 40)
	at := v.lay("one")
	other := v.lay(some(90, 1))
	for _, long := range []int{0, 5, 399, 400, 401, 1300, 20, 3000, 2900, 399, 800, 0, 400} {
		want(t, "Put of so many bytes", v.put(at, some(long, long%250)), at)
		v.wantAsPlain("put")
	}
	want(t, "Put, to the byte: 512 - 12 - 8 - 91", v.put(at, some(399, 3)), at)
	want(t, "Put of the other one, to the byte", v.put(other, some(91, 3)), other)
	v.wantAsPlain("no byte is left")
	moved := v.put(other, some(92, 4))
	want(t, "Put where there is no room", moved, api.Place{Page: v.as.chain[0]})
	want(t, "there are two pages of records", len(v.as.chain), 2)
	v.wantAsPlain("moved")
	want(t, "Put where there is room again", v.put(at, some(100, 5)), at)
	want(t, "Put to an earlier page that has room", v.put(at, some(399, 6)), at)
	v.lay(some(90, 7))
	v.wantAsPlain("the end")
}

// P7.2: what is put elsewhere is laid in the first page that has room, of those ahead, too.
func TestPutElsewhere(t *testing.T) {
	v := begun(t, 40)
	a, b, c := v.lay(some(300, 1)), v.lay(some(300, 2)), v.lay(some(300, 3))
	d := v.lay(some(150, 4))
	want(t, "in the first page", d, api.Place{Page: c.Page, Slot: 1})
	v.lay(some(100, 5)) // in the second one
	want(t, "Put into the last one, that has room", v.put(d, some(190, 6)), api.Place{Page: c.Page, Slot: 1})
	v.take(b)
	want(t, "Put where the second one has room", v.put(d, some(300, 7)), b)
	v.take(a)
	v.wantAsPlain("the last page came back")
	want(t, "Put where there is none: a new one", v.put(c, some(310, 8)), c)
	v.lay(some(120, 9))
	moved := v.put(c, some(399, 9))
	want(t, "Put, with another one in its page", moved.Page == c.Page, false)
	want(t, "the page that came back is given out", moved.Page, a.Page)
	v.wantAsPlain("the end")
}

// P7.2: where a record is the only one of its page, but stands behind empty slots, a longer one may have no room: its page comes back, and is given out again.
func TestPutFar(t *testing.T) {
	v := begun(t, 6)
	var l []api.Place
	for i := range 60 {
		l = append(l, v.lay(some(1, i)))
	}
	for _, at := range l[:59] {
		v.take(at)
	}
	want(t, "Put to the byte: 512 - 12 - 240", v.put(l[59], some(259, 1)), l[59])
	v.wantAsPlain("behind empty slots")
	want(t, "Put of a byte more", v.put(l[59], some(260, 2)), api.Place{Page: 1})
	v.wantAsPlain("the page anew")
	for v.as.room() > 0 {
		v.give()
	}
	for i := range 60 {
		v.take(v.lay(some(1, i))) // no slot stays
	}
	v.wantAsPlain("no page is left")
}

// P7.2: so does one with parts, whose pages come back first, then that of records.
func TestPutFarLong(t *testing.T) {
	v := begun(t, 9)
	var l []api.Place
	for i := range 45 {
		l = append(l, v.lay(some(1, i)))
	}
	at := v.lay(some(1100, 3))
	for _, at := range l {
		v.take(at)
	}
	want(t, "Put where there is no room", v.put(at, some(399, 1)), api.Place{Page: 1})
	v.wantAsPlain("the parts came back, then the page")
	want(t, "Room", v.h.Room(), 7)
	want(t, "Put of parts", v.put(api.Place{Page: 1}, some(1600, 1)), api.Place{Page: 1})
	v.wantAsPlain("parts again")
}

// P7.2: Put needs no more pages than come back by it and are left; where there are too few, it is ErrFull, and nothing is changed.
func TestPutFull(t *testing.T) {
	v := begun(t, 7)
	at := v.lay(some(1200, 1))
	v.lay(some(300, 2))
	for v.as.room() > 0 {
		v.give()
	}
	for _, long := range []int{1201, 1601, 20000} {
		is, e := v.h.Put(at, make([]byte, long))
		want(t, "Put of one that needs more", is, api.Place{})
		v.wantRefused("Put of one that needs more", e, api.ErrFull)
	}
	for _, long := range []int{1200, 900, 1200, 1199, 801} {
		want(t, "Put of one that needs no more", v.put(at, some(long, 7)), at)
		v.wantAsPlain("no more")
	}
	v.lay(some(100, 2))
	v.lay(some(40, 2))
	is, e := v.h.Put(at, []byte(some(399, 4)))
	want(t, "Put where the parts that come back are enough for a page of records", e, api.OK)
	wanted, _ := v.as.put(at, some(399, 4))
	want(t, "Put", is, wanted)
	v.wantAsPlain("moved")
	for v.as.room() > 0 {
		v.give()
	}
	for _, x := range v.as.pairs() {
		v.put(x.at, some(399, 8))
		v.wantAsPlain("there is room, or not")
	}
}

// P7.2: Take takes out the cell and the parts, from the first one on; a page of records without records comes back then, wherever in their order it stands.
func TestTake(t *testing.T) {
	for _, order := range [][]int{{0, 1, 2, 3}, {3, 2, 1, 0}, {1, 2, 0, 3}, {2, 0, 3, 1}, {1, 3, 0, 2}} {
		v := begun(t, 20)
		var l []api.Place
		for i := range 4 {
			l = append(l, v.lay(some(399, i)))
			l[i] = v.put(l[i], some(260+i, i))
			v.lay(some(230-i, 100+i)) // none has room any more
		}
		for i, n := range order {
			v.take(l[n])
			v.wantAsPlain("taken out")
			v.wantRefused("Take, twice", v.h.Take(l[n]), api.ErrNone)
			v.take(api.Place{Page: l[n].Page, Slot: 1})
			v.wantAsPlain("the page came back")
			want(t, "pages of records", len(v.as.chain), 3-i)
		}
		want(t, "Room", v.h.Room(), 19)
		for range 4 {
			v.give()
		}
		v.wantAsPlain("given out again")
	}
	v := begun(t, 9)
	at := v.lay(some(1000, 1))
	v.take(at)
	v.wantAsPlain("the parts from the first one on, then the page")
	for _, n := range []int{4, 1, 2, 3, 5} {
		want(t, "Give", v.give(), n)
	}
}

// P7.2: All goes over the records page by page in their order, slot by slot, as they are when it is called, as often as one likes, and may be left at any time.
func TestAll(t *testing.T) {
	v := begun(t, 30)
	wantPairs(t, "All of nothing", v.h.All())
	for i := range 12 {
		v.lay(some(i*i*7, i))
	}
	v.take(v.as.pairs()[3].at)
	v.wantAsPlain("laid")
	all, was := v.h.All(), v.as.pairs()
	want(t, "there are several pages of records", len(v.as.chain) > 2, true)
	v.put(was[0].at, "another one")
	v.take(was[4].at)
	v.lay("a new one")
	for range 2 {
		wantPairs(t, "All, as it was when it was called", all, was...)
	}
	for stop := range was {
		many := 0
		for at, b := range all {
			want(t, "All that is left: the place", at, was[many].at)
			wantText(t, "All that is left", b, was[many].record)
			clear(b)
			_ = append(b, "more"...)
			if many++; many > stop {
				break
			}
		}
		want(t, "All that is left", many, stop+1)
	}
	wantPairs(t, "All, whose copies were changed", all, was...)
	v.wantAsPlain("at the end")
	want(t, "Abort", v.p.Abort(), api.OK)
	wantPairs(t, "All of a heap that is gone", all, was...)
	wantNothing(t, "a heap that is gone", v.h)
}

// P7.2: two that go over the records at one time do so apart.
func TestAllTwice(t *testing.T) {
	v := begun(t, 30)
	for i := range 6 {
		v.lay(some(i*150, i))
	}
	all, wanted := v.h.All(), v.as.pairs()
	i := 0
	for at := range all {
		want(t, "the outer one", at, wanted[i].at)
		wantPairs(t, "the inner one", all, wanted...)
		i++
	}
	want(t, "the outer one", i, len(wanted))
	want(t, "places are just one's", len(slices.Compact(slices.Clone(wanted))), len(wanted))
}
