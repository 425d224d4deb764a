package page_test

import (
	"slices"
	"strconv"
	"strings"
	"testing"

	"coupon/api"
	"coupon/page"
)

// P5.2: what is laid, taken out, put stands as it is said, byte by byte.
func TestChangesByHand(t *testing.T) {
	p, e := page.New(1)
	want(t, "New", e, api.OK)
	p, a := lay(t, p, "one")
	p, b := lay(t, p, "")
	p, c := lay(t, p, "three")
	want(t, "the slots", [3]int{a, b, c}, [3]int{0, 1, 2})
	by := "\x01\x00\x00\x03\x01\xf8\x00\x00\x00\x00\x00\x00" + "\x01\xfd\x00\x03\x01\xfd\x00\x00\x01\xf8\x00\x05" + strings.Repeat("\x00", 480) + "threeone"
	want(t, "laid", string(p[:]), by)
	p, e = page.Take(p, 0)
	want(t, "Take", e, api.OK)
	by = "\x01\x00\x00\x03\x01\xfb\x00\x00\x00\x00\x00\x00" + "\x00\x00\x00\x00\x02\x00\x00\x00\x01\xfb\x00\x05" + strings.Repeat("\x00", 483) + "three"
	want(t, "taken out", string(p[:]), by)
	p, e = page.Put(p, 1, []byte("2nd"))
	want(t, "Put", e, api.OK)
	by = "\x01\x00\x00\x03\x01\xf8\x00\x00\x00\x00\x00\x00" + "\x00\x00\x00\x00\x01\xfd\x00\x03\x01\xf8\x00\x05" + strings.Repeat("\x00", 480) + "three2nd"
	want(t, "put", string(p[:]), by)
	p, e = page.Take(p, 2)
	want(t, "Take", e, api.OK)
	by = "\x01\x00\x00\x02\x01\xfd\x00\x00\x00\x00\x00\x00" + "\x00\x00\x00\x00\x01\xfd\x00\x03" + strings.Repeat("\x00", 489) + "2nd"
	want(t, "the last one taken out", string(p[:]), by)
	p, e = page.Take(p, 1)
	want(t, "Take", e, api.OK)
	want(t, "all taken out", string(p[:]), "\x01\x00\x00\x00\x02\x00"+strings.Repeat("\x00", 506))
}

// P5.2: a record is laid into the first empty slot, else into a new one.
func TestLay(t *testing.T) {
	for what, x := range fit() {
		for _, long := range []int{0, 1, 2, 3, 4, 5, 50, 100, 399, 400} {
			if long > x.room() {
				continue
			}
			r := some(long, 99)
			p, slot, e := page.Lay(x.page(), []byte(r))
			wantPage(t, what+": Lay of "+strconv.Itoa(long), p, e, x.with(x.free(), r))
			want(t, what+": the slot", slot, x.free())
		}
	}
}

// P5.2: empty slots are filled from the first one on, then new ones.
func TestLayFillsEmptySlots(t *testing.T) {
	x := plainOf(1, times(10, 5)...).without(7, 2, 4)
	p := x.page()
	for i, should := range []int{2, 4, 7, 10, 11} {
		r := some(10+i, 50+i)
		var slot int
		p, slot = lay(t, p, r)
		want(t, "the slot", slot, should)
		x = x.with(should, r)
		wantPage(t, "Lay", p, api.OK, x)
	}
}

// P5.2: what just fits is laid; of one byte more there is no room.
func TestLayFull(t *testing.T) {
	for what, x := range fit() {
		room := x.room()
		if room >= 0 {
			p, _, e := page.Lay(x.page(), make([]byte, room))
			wantPage(t, what+": what just fits", p, e, x.with(x.free(), string(make([]byte, room))))
		}
		for long := room + 1; long <= 400; long++ {
			p, slot, e := page.Lay(x.page(), make([]byte, long))
			wantRefused(t, what+": Lay of "+strconv.Itoa(long), p, e, api.ErrFull)
			want(t, what+": the slot", slot, 0)
		}
	}
}

// P5.2: as many empty records as there are slots have room.
func TestLayManyEmptyRecords(t *testing.T) {
	x := plainOf(3)
	p := x.page()
	for i := range 125 {
		var slot int
		p, slot = lay(t, p, "")
		want(t, "the slot", slot, i)
		x = x.with(i, "")
		wantPage(t, "Lay", p, api.OK, x)
	}
	p, _, e := page.Lay(p, nil)
	wantRefused(t, "Lay of the 126th", p, e, api.ErrFull)
}

// P5.2: Lay tells a page that may not be, then a record that is too long, then that there is no room.
func TestLayErrors(t *testing.T) {
	for _, long := range []int{401, 402, 511, 512, 513, 656, 65536, 65537, 1 << 20} {
		for what, x := range fit() {
			p, slot, e := page.Lay(x.page(), make([]byte, long))
			wantRefused(t, what+": Lay of "+strconv.Itoa(long), p, e, api.ErrLong)
			want(t, what+": the slot", slot, 0)
		}
		for what, bad := range unfit() {
			p, slot, e := page.Lay(bad, make([]byte, long))
			wantRefused(t, what+": Lay of "+strconv.Itoa(long), p, e, api.ErrBytes)
			want(t, what+": the slot", slot, 0)
		}
	}
	for what, bad := range unfit() {
		for _, long := range []int{0, 1, 400} {
			p, slot, e := page.Lay(bad, make([]byte, long))
			wantRefused(t, what+": Lay of "+strconv.Itoa(long), p, e, api.ErrBytes)
			want(t, what+": the slot", slot, 0)
		}
	}
}

// P5.2: Put gives each slot any record that there is room for, once its own is gone; no more.
func TestPut(t *testing.T) {
	for what, x := range fit() {
		for slot, was := range x.records {
			rest := 500 - 4*x.slots() - x.used() + len(was)
			for _, long := range []int{0, 1, 2, len(was) - 1, len(was), len(was) + 1, rest - 1, rest, 400} {
				if long < 0 || long > min(rest, 400) {
					continue
				}
				r := some(long, 99)
				p, e := page.Put(x.page(), slot, []byte(r))
				wantPage(t, what+": Put of "+strconv.Itoa(long)+" into "+strconv.Itoa(slot), p, e, x.with(slot, r))
			}
			for long := rest + 1; long <= 400; long++ {
				p, e := page.Put(x.page(), slot, make([]byte, long))
				wantRefused(t, what+": Put of "+strconv.Itoa(long)+" into "+strconv.Itoa(slot), p, e, api.ErrFull)
			}
		}
	}
}

// P5.2: Put tells a page that may not be, then a record that is too long, then a slot that there is not, or that is empty, then that there is no room.
func TestPutErrors(t *testing.T) {
	for what, x := range fit() {
		for _, slot := range append(noSlots(), x.slots(), x.free(), 0) {
			p, e := page.Put(x.page(), slot, make([]byte, 401))
			wantRefused(t, what+": Put of 401 bytes into "+strconv.Itoa(slot), p, e, api.ErrLong)
			if _, is := x.records[slot]; is {
				continue
			}
			for _, long := range []int{0, 1, 400} {
				p, e := page.Put(x.page(), slot, make([]byte, long))
				wantRefused(t, what+": Put into "+strconv.Itoa(slot), p, e, api.ErrNone)
			}
		}
	}
	for what, bad := range unfit() {
		for _, slot := range append(noSlots(), 0, 1, 2) {
			for _, long := range []int{0, 3, 400, 401} {
				p, e := page.Put(bad, slot, make([]byte, long))
				wantRefused(t, what+": Put into "+strconv.Itoa(slot), p, e, api.ErrBytes)
			}
		}
	}
}

// P5.2: what is taken out leaves an empty slot; empty ones at the end are gone.
func TestTake(t *testing.T) {
	for what, x := range fit() {
		for slot := range x.records {
			p, e := page.Take(x.page(), slot)
			wantPage(t, what+": Take of "+strconv.Itoa(slot), p, e, x.without(slot))
			want(t, what+": Slots", page.Slots(p), x.without(slot).slots())
		}
	}
	x := plainOf(1, times(10, 5)...)
	p := x.page()
	for _, slot := range []int{8, 7, 5, 9, 0, 6, 2, 4, 3, 1} {
		var e api.Errno
		p, e = page.Take(p, slot)
		x = x.without(slot)
		wantPage(t, "Take of "+strconv.Itoa(slot), p, e, x)
	}
}

// P5.2: Take tells a page that may not be, then a slot that there is not, or that is empty.
func TestTakeErrors(t *testing.T) {
	for what, x := range fit() {
		for _, slot := range append(noSlots(), x.slots(), x.free()) {
			if _, is := x.records[slot]; !is {
				p, e := page.Take(x.page(), slot)
				wantRefused(t, what+": Take of "+strconv.Itoa(slot), p, e, api.ErrNone)
			}
		}
	}
	for what, bad := range unfit() {
		for _, slot := range append(noSlots(), 0, 1, 2) {
			p, e := page.Take(bad, slot)
			wantRefused(t, what+": Take of "+strconv.Itoa(slot), p, e, api.ErrBytes)
		}
	}
}

// P5.2: a record that is handed in stays as it is, and the page stays as it is, whatever becomes of that one; a page that is handed in stays, too.
func TestChangesShareNothing(t *testing.T) {
	x := plainOf(1, "one", "two", "three").without(1)
	for what, change := range map[string]func(api.Page, []byte) api.Page{
		"Lay": func(p api.Page, r []byte) api.Page { p, _, _ = page.Lay(p, r); return p },
		"Put": func(p api.Page, r []byte) api.Page { p, _ = page.Put(p, 2, r); return p },
	} {
		given := append(make([]byte, 0, 100), "record"...)
		p := x.page()
		first := change(p, given)
		want(t, what+": the page that was handed in", p, x.page())
		if !slices.Equal(given[:100], append([]byte("record"), make([]byte, 94)...)) {
			t.Errorf("%s changes the record", what)
		}
		was := first
		clear(given[:100])
		want(t, what+": the page", first, was)
		want(t, what+": the page, again", change(p, []byte("record")), was)
	}
}

// P5.2: nil and empty records are one.
func TestNothingIsARecord(t *testing.T) {
	x := plainOf(1, "one", "two")
	p, slot, e := page.Lay(x.page(), nil)
	wantPage(t, "Lay of nil", p, e, x.with(2, ""))
	want(t, "the slot", slot, 2)
	p, slot, e = page.Lay(x.page(), []byte{})
	wantPage(t, "Lay of no bytes", p, e, x.with(2, ""))
	want(t, "the slot", slot, 2)
	p, e = page.Put(x.page(), 0, nil)
	wantPage(t, "Put of nil", p, e, x.with(0, ""))
	p, e = page.Put(x.page(), 0, []byte{})
	wantPage(t, "Put of no bytes", p, e, x.with(0, ""))
}
