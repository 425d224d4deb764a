package page_test

import (
	"slices"
	"strconv"
	"testing"

	"coupon/api"
	"coupon/page"
)

// pair is a slot, and its record.
type pair struct {
	slot   int
	record string
}

// pairs are what a page has.
func (x plain) pairs() []pair {
	var l []pair
	for slot := range x.slots() {
		if r, is := x.records[slot]; is {
			l = append(l, pair{slot, r})
		}
	}
	return l
}

// met is what All goes over.
func met(p api.Page) []pair {
	var l []pair
	for slot, r := range page.All(p) {
		l = append(l, pair{slot, string(r)})
	}
	return l
}

// P5.3: Get is the record of each slot.
func TestGet(t *testing.T) {
	for what, x := range fit() {
		for slot, r := range x.records {
			b, e := page.Get(x.page(), slot)
			if e != api.OK || string(b) != r {
				t.Errorf("%s: Get(%d) is %q, %v", what, slot, b, e)
			}
		}
	}
}

// P5.3: Get tells a page that may not be, then a slot that there is not, or that is empty.
func TestGetErrors(t *testing.T) {
	for what, x := range fit() {
		for _, slot := range append(noSlots(), x.slots(), x.free()) {
			if _, is := x.records[slot]; is {
				continue
			}
			if b, e := page.Get(x.page(), slot); e != api.ErrNone || len(b) > 0 {
				t.Errorf("%s: Get(%d) is %q, %v", what, slot, b, e)
			}
		}
	}
	for what, bad := range unfit() {
		for _, slot := range append(noSlots(), 0, 1, 2) {
			if b, e := page.Get(bad, slot); e != api.ErrBytes || len(b) > 0 {
				t.Errorf("%s: Get(%d) is %q, %v", what, slot, b, e)
			}
		}
	}
}

// P5.3: what Get answers is new memory, with none beside it that is another record's.
func TestGetSharesNothing(t *testing.T) {
	x := plainOf(1, "one", "two", "three")
	p := x.page()
	a, _ := page.Get(p, 1)
	b, _ := page.Get(p, 1)
	clear(a)
	_ = append(a, "more"...)
	want(t, "another copy", string(b), "two")
	want(t, "the page", p, x.page())
	c, e := page.Get(p, 1)
	want(t, "Get", e, api.OK)
	want(t, "the record", string(c), "two")
}

// P5.3: All goes over the slots that are not empty, rising, with their records, as often as one likes; of a page that may not be over none.
func TestAll(t *testing.T) {
	for what, x := range fit() {
		if l := met(x.page()); !slices.Equal(l, x.pairs()) {
			t.Errorf("%s: All is %v", what, l)
		}
		all := page.All(x.page())
		for range 2 {
			var l []pair
			for slot, r := range all {
				l = append(l, pair{slot, string(r)})
			}
			if !slices.Equal(l, x.pairs()) {
				t.Errorf("%s: All, gone through once more, is %v", what, l)
			}
		}
	}
	for what, bad := range unfit() {
		if l := met(bad); len(l) > 0 {
			t.Errorf("%s: All is %v", what, l)
		}
	}
}

// P5.3: All may be left at any time, and begins anew.
func TestAllIsLeft(t *testing.T) {
	for what, x := range fit() {
		all := page.All(x.page())
		for n := range x.pairs() {
			var l []pair
			for slot, r := range all {
				l = append(l, pair{slot, string(r)})
				if len(l) == n+1 {
					break
				}
			}
			if !slices.Equal(l, x.pairs()[:n+1]) {
				t.Errorf("%s: All, left behind %d, is %v", what, n+1, l)
			}
		}
	}
}

// P5.3: All may be gone through within itself.
func TestAllWithinAll(t *testing.T) {
	x := plainOf(1, "one", "two", "three", "").without(1)
	all := page.All(x.page())
	n := 0
	for outer := range all {
		var l []pair
		for slot, r := range all {
			l = append(l, pair{slot, string(r)})
		}
		if !slices.Equal(l, x.pairs()) {
			t.Errorf("All at the slot %d of another All is %v", outer, l)
		}
		n++
	}
	want(t, "how many", n, 3)
}

// P5.3: All goes over copies, and over the page as it was when it was called.
func TestAllSharesNothing(t *testing.T) {
	x := plainOf(1, "one", "two", "three")
	p := x.page()
	all := page.All(p)
	p = api.Page{}
	var kept [][]byte
	for _, r := range all {
		kept = append(kept, slices.Clone(r))
		clear(r)
		_ = append(r, "more"...)
	}
	for slot, r := range all {
		want(t, "the record, once more", string(r), x.records[slot])
		want(t, "the record", string(kept[slot]), x.records[slot])
	}
	want(t, "the page that was handed in", p, api.Page{})
}

// P5.3: Room is how long a record may be that is laid; of a page that may not be -1.
func TestRoom(t *testing.T) {
	for what, x := range fit() {
		want(t, what+": Room", page.Room(x.page()), x.room())
	}
	for what, bad := range unfit() {
		want(t, what+": Room", page.Room(bad), -1)
	}
	for what, c := range map[string]struct {
		x    plain
		room int
	}{
		"no slots":                   {plainOf(1), 400},
		"10 bytes":                   {plainOf(1, some(10, 1)), 400},
		"88 bytes":                   {plainOf(1, some(88, 1)), 400},
		"92 bytes":                   {plainOf(1, some(92, 1)), 400},
		"93 bytes":                   {plainOf(1, some(93, 1)), 399},
		"400 bytes":                  {plainOf(1, some(400, 1)), 92},
		"four bytes left":            {plainOf(1, some(400, 1), some(88, 2)), 0},
		"three bytes left":           {plainOf(1, some(400, 1), some(89, 2)), -1},
		"no bytes left":              {plainOf(1, some(400, 1), some(92, 2)), -1},
		"a slot, no bytes left":      {plainOf(1, "", some(400, 1), some(88, 2)).without(0), 0},
		"a slot, a byte left":        {plainOf(1, "", some(400, 1), some(87, 2)).without(0), 1},
		"a slot, 400 bytes left":     {plainOf(1, "", some(92, 1)).without(0), 400},
		"a slot, 399 bytes left":     {plainOf(1, "", some(93, 1)).without(0), 399},
		"124 empty slots, no record": {plainOf(1).with(124, ""), 0},
		"125 empty records":          {plainOf(1, times(125, 0)...), -1},
		"124 empty records":          {plainOf(1, times(124, 0)...), 0},
	} {
		want(t, what+": Room", page.Room(c.x.page()), c.room)
	}
}

// P5.3: Room as it falls, byte by byte, with and without an empty slot.
func TestRoomFalls(t *testing.T) {
	for long := range 93 {
		x := plainOf(2, some(400, 1), some(long, 2))
		what := strconv.Itoa(long) + " bytes more"
		want(t, what+": Room", page.Room(x.page()), max(88-long, -1))
		if long <= 88 {
			x = plainOf(2, some(400, 1), "", some(long, 2)).without(1)
			want(t, what+", a slot: Room", page.Room(x.page()), 88-long)
		}
	}
}

// P5.3: Slots is how many there are; of a page that may not be 0.
func TestSlots(t *testing.T) {
	for what, x := range fit() {
		want(t, what+": Slots", page.Slots(x.page()), x.slots())
	}
	for what, bad := range unfit() {
		want(t, what+": Slots", page.Slots(bad), 0)
	}
}
