package heap_test

import (
	"math"
	"testing"

	"coupon/api"
	"coupon/heap"
)

// P7.3: Room is how many pages can be given out: those that were never used, and those that came back.
func TestRoom(t *testing.T) {
	v := begun(t, 9)
	want(t, "Room at first", v.h.Room(), 8)
	a, b := v.give(), v.give()
	want(t, "Room, two given out", v.h.Room(), 6)
	v.back(a)
	want(t, "Room, one came back", v.h.Room(), 7)
	v.back(b)
	want(t, "Room, all came back", v.h.Room(), 8)
	v.lay(some(400, 1))
	want(t, "Room, a part, a page of records", v.h.Room(), 6)
	for many := v.h.Room(); many > 0; many-- {
		want(t, "Room tells how often Give answers a page", v.h.Room(), many)
		v.give()
	}
	want(t, "Room, none left", v.h.Room(), 0)
	v.wantAsPlain("none left")
}

// P7.3: SetRoot sets what Root tells, of all pages of the pool, used or not; of others it is ErrArg, and changes nothing.
func TestRoot(t *testing.T) {
	v := begun(t, 9)
	want(t, "Root at first", v.h.Root(), 0)
	for _, n := range []int{7, 0, 8, 1, 5, 8} {
		v.setRoot(n)
		want(t, "Root", v.h.Root(), n)
		v.wantAsPlain("a root")
		for _, bad := range noPages(9) {
			v.wantRefused("SetRoot of no page", v.h.SetRoot(bad), api.ErrArg)
		}
	}
	big := begun(t, 700)
	for _, n := range []int{255, 256, 300, 511, 512, 699} {
		big.setRoot(n)
		want(t, "Root", big.h.Root(), n)
		x, _ := big.p.Get(0)
		want(t, "the first page", x, firstPage(1, 0, 0, 0, n))
	}
	v.lay("one")
	v.give()
	want(t, "Root stays", v.h.Root(), 8)
	v.wantAsPlain("Root stays")
}

// P7.3: Uses tells what each page is, in new memory.
func TestUses(t *testing.T) {
	v := begun(t, 10)
	wantList(t, "Uses at first", v.h.Uses(), 4, 0, 0, 0, 0, 0, 0, 0, 0, 0)
	v.lay("one")
	at := v.lay(some(500, 1))
	a := v.give()
	v.give()
	v.lay(some(399, 2))
	v.lay(some(399, 3))
	wantList(t, "Uses", v.h.Uses(), 4, 1, 2, 2, 3, 3, 1, 0, 0, 0)
	v.back(a)
	wantList(t, "Uses, one came back", v.h.Uses(), 4, 1, 2, 2, 0, 3, 1, 0, 0, 0)
	v.take(at)
	wantList(t, "Uses, parts came back", v.h.Uses(), 4, 1, 0, 0, 0, 3, 1, 0, 0, 0)
	l := v.h.Uses()
	clear(l)
	_ = append(l[:2], 9, 9)
	v.wantAsPlain("what was told is the caller's")
}

// P7.3: pages that were never used are 0, though they look like others.
func TestUsesOfOld(t *testing.T) {
	_, p := littered(t, 6)
	for n, kind := range []int{4, 1, 2, 3, 4, 0} {
		want(t, "Put", p.Put(n, slotted(kind, 0, "\x00x")), api.OK)
	}
	want(t, "Format", heap.Format(p), api.OK)
	h, _ := heap.Open(p)
	wantList(t, "Uses", h.Uses(), 4, 0, 0, 0, 0, 0)
	n, e := h.Give()
	want(t, "Give", n, 1)
	want(t, "Give's error", e, api.OK)
	wantList(t, "Uses", h.Uses(), 4, 3, 0, 0, 0, 0)
	_, e = h.Get(api.Place{Page: 1})
	want(t, "Get of a page that was given out", e, api.ErrNone)
}

// P7.3: Need is how many parts a record has: none of up to 399 bytes, and of a number that may not be.
func TestNeed(t *testing.T) {
	for n := 0; n <= 20000; n++ {
		_, wanted := lengthOf(string(make([]byte, n)))
		want(t, "Need", heap.Need(n), wanted)
	}
	for n, wanted := range map[int]int{0: 0, 399: 0, 400: 1, 401: 2, 800: 2, 801: 3, 1000: 3, 19600: 49, 19601: 50, 20000: 50} {
		want(t, "Need", heap.Need(n), wanted)
	}
	for _, n := range []int{math.MinInt, -1 << 32, -400, -2, -1, 20001, 20400, 1 << 31, 1 << 32, 1<<32 + 400, math.MaxInt - 399, math.MaxInt - 1, math.MaxInt} {
		want(t, "Need of what may not be", heap.Need(n), 0)
	}
}
