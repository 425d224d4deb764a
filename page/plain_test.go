package page_test

import (
	"encoding/binary"
	"maps"
	"math"
	"slices"
	"strconv"
	"testing"

	"coupon/api"
	"coupon/page"
)

// plain is a page as the document says it: its kind, its next, the records by their slots.
type plain struct {
	kind, next int
	records    map[int]string
}

// plainOf is a page of a kind, and of records in the slots from 0 on.
func plainOf(kind int, records ...string) plain {
	x := plain{kind: kind, records: map[int]string{}}
	for slot, r := range records {
		x.records[slot] = r
	}
	return x
}

// copied goes on apart.
func (x plain) copied() plain { return plain{x.kind, x.next, maps.Clone(x.records)} }

// linked is the page of that next.
func (x plain) linked(next int) plain {
	x = x.copied()
	x.next = next
	return x
}

// with is the page that has a record in the slot, too.
func (x plain) with(slot int, record string) plain {
	x = x.copied()
	x.records[slot] = record
	return x
}

// without is the page that has no records in these slots.
func (x plain) without(slots ...int) plain {
	x = x.copied()
	for _, slot := range slots {
		delete(x.records, slot)
	}
	return x
}

// slots is how many there are.
func (x plain) slots() int {
	n := 0
	for slot := range x.records {
		n = max(n, slot+1)
	}
	return n
}

// free is the first slot that is empty, or the one behind the last one.
func (x plain) free() int {
	slot := 0
	for ; ; slot++ {
		if _, is := x.records[slot]; !is {
			return slot
		}
	}
}

// used is how many bytes the records have.
func (x plain) used() int {
	n := 0
	for _, r := range x.records {
		n += len(r)
	}
	return n
}

// room is how long a record may be that is laid now.
func (x plain) room() int {
	n := 512 - 12 - 4*max(x.slots(), x.free()+1) - x.used()
	return min(max(n, -1), 400)
}

// page is the page's bytes.
func (x plain) page() (p api.Page) {
	slots, behind := []byte{}, []byte{}
	for slot := range x.slots() {
		r, is := x.records[slot]
		behind = append([]byte(r), behind...)
		begin := 512 - len(behind)
		if !is {
			begin = 0
		}
		slots = binary.BigEndian.AppendUint16(slots, uint16(begin))
		slots = binary.BigEndian.AppendUint16(slots, uint16(len(r)))
	}
	b := []byte{byte(x.kind), 0}
	b = binary.BigEndian.AppendUint16(b, uint16(x.slots()))
	b = binary.BigEndian.AppendUint16(b, uint16(512-len(behind)))
	b = append(b, 0, 0)
	b = binary.BigEndian.AppendUint32(b, uint32(x.next))
	copy(p[:], append(b, slots...))
	copy(p[512-len(behind):], behind)
	return p
}

// plainMay: may a page be? It is gone through byte by byte.
func plainMay(p api.Page) bool {
	at := func(i int) int { return int(binary.BigEndian.Uint16(p[i:])) }
	many, begin, end := at(2), at(4), 512
	if p[0] > 4 || p[1] != 0 || p[6] != 0 || p[7] != 0 || p[8] >= 128 || 12+4*many > 512 {
		return false
	}
	empty := false
	for i := 12; i < 12+4*many; i += 4 {
		empty = at(i) == 0 && at(i+2) == 0
		if empty {
			continue
		}
		if at(i+2) > 400 || at(i)+at(i+2) != end {
			return false
		}
		end = at(i)
	}
	if empty || begin != end || 12+4*many > begin {
		return false
	}
	return !slices.ContainsFunc(p[12+4*many:begin], func(b byte) bool { return b != 0 })
}

// some are so many bytes, none of them 0, unlike those of another number (up to 200).
func some(n, other int) string {
	b := make([]byte, n)
	for i := range b {
		b[i] = byte((i+7*other)%251 + 1)
	}
	return string(b)
}

// times are so many records of as many bytes.
func times(many, long int) []string {
	l := make([]string, many)
	for i := range l {
		l[i] = some(long, i)
	}
	return l
}

// fit are pages that may be, by what they have: of no records, of empty ones, of empty slots, of no room, of all kinds.
func fit() map[string]plain {
	l := map[string]plain{
		"three records":              plainOf(1, "one", "", "three"),
		"an empty record":            plainOf(2, ""),
		"an empty record last":       plainOf(2, "one", ""),
		"the longest record":         plainOf(2, some(400, 1)),
		"two long records":           plainOf(1, some(400, 1), some(92, 2)),
		"just no room":               plainOf(1, some(400, 1), some(88, 2), ""),
		"room for an empty record":   plainOf(1, some(400, 1), some(88, 2)),
		"room for a byte":            plainOf(1, some(400, 1), some(87, 2)),
		"three bytes left":           plainOf(1, some(400, 1), some(89, 2)),
		"no bytes left":              plainOf(1, some(400, 1), some(92, 2)),
		"no bytes left, a slot":      plainOf(1, some(400, 1), some(80, 2), "", "four").without(2),
		"a byte left, a slot":        plainOf(1, some(400, 1), some(79, 2), "", "four").without(2),
		"empty records alone":        plainOf(3, times(125, 0)...),
		"bytes alone":                plainOf(3, times(100, 1)...),
		"the first slot empty":       plainOf(1, "one", "two", "three").without(0),
		"a slot between empty":       plainOf(1, "one", "two", "three").without(1),
		"one record, in a far slot":  plainOf(1).with(77, "far").linked(math.MaxInt32),
		"an empty record, far":       plainOf(1).with(124, ""),
		"each second slot empty":     plainOf(1, times(60, 3)...).without(0, 2, 4, 6, 8, 10, 12, 14, 16, 18, 20),
		"noughts":                    plainOf(1, string(make([]byte, 100)), string(make([]byte, 7))),
		"the greatest bytes":         plainOf(1, string(slices.Repeat([]byte{255}, 300)), "\xff"),
		"records of several lengths": plainOf(4, some(24, 3), some(100, 4), some(200, 5), some(1, 6)).linked(0x01020304),
	}
	for kind := range 5 {
		l["no slots, of the kind "+strconv.Itoa(kind)] = plainOf(kind)
		l["a record, of the kind "+strconv.Itoa(kind)] = plainOf(kind, some(30, kind)).linked(1 << (8 * kind % 32))
	}
	return l
}

// unfit are pages that may not be, by what is wrong with them.
func unfit() map[string]api.Page {
	l := map[string]api.Page{"noughts": {}, "the greatest bytes": api.Page(slices.Repeat([]byte{255}, 512))}
	bad := func(what string, x plain, at int, b ...byte) {
		p := x.page()
		copy(p[at:], b)
		l[what] = p
	}
	three := plainOf(1, "one", "two", "three")
	bad("a kind above 4", three, 0, 5)
	bad("the greatest kind", three, 0, 255)
	bad("no nought behind the kind", three, 1, 1)
	bad("no nought ahead of next", three, 6, 1)
	bad("no nought right ahead of next", three, 7, 1)
	bad("a next of 2^31", three, 8, 128)
	bad("the greatest next", three, 8, 255, 255, 255, 255)
	bad("a slot fewer", three, 3, 2)
	bad("no slots, but records", three, 3, 0)
	bad("a slot more, empty", three, 3, 4)
	bad("an empty slot alone", plainOf(1), 3, 1)
	bad("126 slots", plainOf(1, times(125, 0)...), 3, 126)
	bad("256 slots more", three, 2, 1)
	bad("the most slots", three, 2, 255, 255)
	bad("records that begin a byte ahead", three, 4, 1, 244)
	bad("records that begin a byte later", three, 4, 1, 246)
	bad("records that begin at 0", three, 4, 0, 0)
	bad("no records, that begin at 0", plainOf(1), 4, 0, 0)
	bad("no records, that begin at 511", plainOf(1), 4, 1, 255)
	bad("no records, that begin behind the page", plainOf(1), 4, 2, 1)
	bad("a byte in the room", three, 400, 1)
	bad("a byte right behind the slots", three, 24, 1)
	bad("a byte right ahead of the records", three, 500, 1)
	bad("a byte in the room of no slots", plainOf(1), 12, 1)
	bad("a byte at the end of no records", plainOf(1), 511, 1)
	bad("a record that begins later", three, 12, 1, 254)
	bad("a record that begins ahead", three, 12, 1, 252)
	bad("a record that is longer", three, 15, 4)
	bad("a record that is shorter", three, 15, 2)
	bad("two slots that are changed", three, 12, 1, 250, 0, 3, 1, 253, 0, 3)
	bad("two slots of one record", three, 16, 1, 253, 0, 3)
	bad("a slot that begins at 0", three, 16, 0, 0, 0, 3)
	bad("the last slot empty", three, 20, 0, 0, 0, 0)
	bad("the last slot empty, and no gap", plainOf(1, "one", "two", ""), 20, 0, 0, 0, 0)
	bad("an empty record that begins elsewhere", plainOf(1, "one", ""), 16, 2, 0)
	bad("a record behind the page", plainOf(1, "one"), 12, 2, 0, 0, 3)
	bad("a record of 401 bytes", plainOf(1, some(400, 1), "x"), 2, 0, 1, 0, 111, 0, 0, 0, 0, 0, 0, 0, 111, 1, 145, 0, 0, 0, 0)
	bad("records that run into the slots", plainOf(1, some(400, 1), some(92, 2)), 3, 3, 0, 20, 0, 0, 0, 0, 0, 0, 0, 112, 1, 144, 0, 20, 0, 92, 0, 20, 0, 0)
	bad("records that begin within the slots", plainOf(1, some(400, 1), some(92, 2)), 3, 2, 0, 19, 0, 0, 0, 0, 0, 0, 0, 112, 1, 144, 0, 19, 0, 93)
	bad("records that begin within the head", plainOf(1, some(400, 1)), 3, 2, 0, 4, 0, 0, 0, 0, 0, 0, 0, 112, 1, 144, 0, 4, 0, 108)
	bad("lengths that come round", three, 12, 2, 1, 255, 255)
	return l
}

// fitPages are the bytes of pages that may be.
func fitPages() map[string]api.Page {
	l := map[string]api.Page{}
	for what, x := range fit() {
		l[what] = x.page()
	}
	return l
}

// lay is Lay, which must be.
func lay(t *testing.T, p api.Page, record string) (api.Page, int) {
	t.Helper()
	p, slot, e := page.Lay(p, []byte(record))
	if e != api.OK {
		t.Fatalf("Lay of %d bytes answers %v", len(record), e)
	}
	return p, slot
}

// want: is it what it should be?
func want[T comparable](t *testing.T, what string, is, should T) {
	t.Helper()
	if is != should {
		t.Errorf("%s: %v, not %v", what, is, should)
	}
}

// wantPage: is it this page, to the byte?
func wantPage(t *testing.T, what string, p api.Page, e api.Errno, x plain) {
	t.Helper()
	want(t, what, e, api.OK)
	for i, b := range x.page() {
		if p[i] != b {
			t.Errorf("%s: the byte %d is %d, not %d", what, i, p[i], b)
			return
		}
	}
}

// wantRefused: is it this error, and no page?
func wantRefused(t *testing.T, what string, p api.Page, e, should api.Errno) {
	t.Helper()
	want(t, what, e, should)
	if p != (api.Page{}) {
		t.Errorf("%s: there is a page beside the error", what)
	}
}

// noKinds are numbers that no kind is.
func noKinds() []int {
	return []int{math.MinInt, -1 << 32, -256, -255, -5, -2, -1, 5, 6, 255, 256, 257, 65536, 1 << 32, 1<<32 + 1, math.MaxInt}
}

// noNexts are numbers that no page has.
func noNexts() []int {
	return []int{math.MinInt, math.MinInt + 5, -1 << 32, -1<<32 + 1, -1 << 31, -2, -1, 1 << 31, 1<<31 + 1, 1<<32 - 1, 1 << 32, 1<<32 + 5, math.MaxInt}
}

// noSlots are numbers that no page's slots have.
func noSlots() []int {
	return []int{math.MinInt, math.MinInt / 4, -1 << 32, -65536, -125, -4, -3, -2, -1, 125, 126, 127, 128, 255, 256, 65535, 65536, 1 << 30, 1 << 32, math.MaxInt/4 + 1, math.MaxInt}
}
