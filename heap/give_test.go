package heap_test

import (
	"slices"
	"testing"

	"coupon/api"
	"coupon/disk"
	"coupon/heap"
	"coupon/pool"
)

// P7.1: Format makes the first page that of a heap whose fresh is 1, and changes nothing else, whatever stood there; a heap is begun anew, too.
func TestFormat(t *testing.T) {
	for _, many := range []int{4, 5, 70} {
		_, p := littered(t, many)
		was := pages(t, p)
		want(t, "Format", heap.Format(p), api.OK)
		wantList(t, "just the first page is another one", changed(t, p, was), 0)
		x, _ := p.Get(0)
		want(t, "the first page", x, slotted(4, 0, "HEAP\x00\x00\x00\x01\x00\x00\x00\x00\x00\x00\x00\x00\x00\x00\x00\x00\x00\x00\x00\x00"))
		want(t, "it is the transaction's: Abort", p.Abort(), api.OK)
		wantList(t, "as it was", changed(t, p, was))
	}
	v := begun(t, 9)
	v.lay(some(900, 1))
	v.back(v.give())
	v.setRoot(3)
	was := pages(t, v.p)
	want(t, "Format, anew", heap.Format(v.p), api.OK)
	wantList(t, "just the first page is another one", changed(t, v.p, was), 0)
	v.as = plainOn(was)
	v.wantAsPlain("anew")
}

// P7.1: Open is a heap as it stands in the transaction; it has nothing in memory: several are the same one.
func TestOpen(t *testing.T) {
	v := begun(t, 12)
	other := v.h
	a := v.lay(some(500, 1))
	v.open()
	v.lay("one")
	v.h, other = other, v.h
	v.give()
	v.take(a)
	v.wantAsPlain("of the one")
	v.h = other
	v.wantAsPlain("of the other one")
	want(t, "Commit", v.p.Commit(), api.OK)
	kept := v.as.copied()
	v.lay(some(600, 2))
	v.give()
	v.setRoot(2)
	want(t, "Abort", v.p.Abort(), api.OK)
	v.as = kept
	v.wantAsPlain("aborted")
}

// P7.1: Open of pages that are no first page is ErrBytes.
func TestOpenBad(t *testing.T) {
	for what, x := range badFirsts() {
		_, p := littered(t, 9)
		want(t, "Put", p.Put(0, x), api.OK)
		was := pages(t, p)
		h, e := heap.Open(p)
		want(t, what+": Open's error", e, api.ErrBytes)
		want(t, what+": there is no heap", h == nil, true)
		wantList(t, what+": nothing is changed", changed(t, p, was))
	}
	_, p := littered(t, 4)
	_, e := heap.Open(p)
	want(t, "Open of pages that were never formatted", e, api.ErrBytes)
}

// P7.1: first pages that may be are opened, at the greatest and the least numbers.
func TestOpenGood(t *testing.T) {
	for what, x := range map[string]api.Page{
		"the least":                     firstPage(1, 0, 0, 0, 0),
		"all used":                      firstPage(9, 0, 0, 0, 0),
		"all used, the last one of all": firstPage(9, 8, 8, 8, 8),
		"one came back":                 firstPage(2, 1, 1, 0, 0),
		"one of records":                firstPage(2, 0, 0, 1, 0),
		"the greatest root, none used":  firstPage(1, 0, 0, 0, 8),
	} {
		_, p := littered(t, 9)
		want(t, "Put", p.Put(0, x), api.OK)
		h, e := heap.Open(p)
		want(t, what+": Open's error", e, api.OK)
		want(t, what+": there is a heap", h != nil, true)
	}
}

// badFirsts are pages that are no first page of a heap on 9 pages, by what is wrong with them.
func badFirsts() map[string]api.Page {
	good := "HEAP\x00\x00\x00\x05\x00\x00\x00\x02\x00\x00\x00\x01\x00\x00\x00\x03\x00\x00\x00\x08"
	l := map[string]api.Page{
		"noughts":                       {},
		"the greatest bytes":            api.Page(slices.Repeat([]byte{255}, 512)),
		"no record":                     slotted(4, 0),
		"an empty slot first":           slotted(4, 0, "", good),
		"two records":                   slotted(4, 0, good, "x"),
		"two of the same":               slotted(4, 0, good, good),
		"a byte fewer":                  slotted(4, 0, good[:23]),
		"a byte more":                   slotted(4, 0, good+"\x00"),
		"the mark alone":                slotted(4, 0, good[:4]),
		"a byte alone":                  slotted(4, 0, "H"),
		"another mark":                  slotted(4, 0, "HEAQ"+good[4:]),
		"small letters":                 slotted(4, 0, "heap"+good[4:]),
		"a next one":                    slotted(4, 1, good),
		"fresh is 0":                    firstPage(0, 0, 0, 0, 0),
		"fresh is more than there are":  firstPage(10, 0, 0, 0, 0),
		"the greatest fresh":            firstPage(1<<32-1, 0, 0, 0, 0),
		"free is fresh":                 firstPage(5, 5, 1, 0, 0),
		"the greatest free":             firstPage(5, 1<<32-1, 1, 0, 0),
		"as many came back as fresh":    firstPage(5, 2, 5, 0, 0),
		"the most came back":            firstPage(5, 2, 1<<32-1, 0, 0),
		"none came back, but the first": firstPage(5, 2, 0, 0, 0),
		"some came back, but no first":  firstPage(5, 0, 2, 0, 0),
		"records are fresh":             firstPage(5, 0, 0, 5, 0),
		"the greatest records":          firstPage(5, 0, 0, 1<<32-1, 0),
		"the root is no page":           firstPage(5, 0, 0, 0, 9),
		"the greatest root":             firstPage(5, 0, 0, 0, 1<<32-1),
	}
	for _, kind := range []int{0, 1, 2, 3} {
		l["of another kind"+string(rune('0'+kind))] = slotted(kind, 0, good)
	}
	for what, at := range map[string]int{"a nought that is none": 1, "a nought ahead of next": 6, "a byte in the room": 200, "more slots": 2, "another begin": 5, "another length": 15} {
		x := slotted(4, 0, good)
		x[at] ^= 1
		l[what] = x
	}
	return l
}

// P7.1: Give gives out the pages from 1 on, of the kind 3, without slots, whatever stood there; then it is ErrFull, and changes nothing.
func TestGive(t *testing.T) {
	for _, many := range []int{4, 7, 60} {
		v := begun(t, many)
		for n := 1; n < many; n++ {
			want(t, "Give", v.give(), n)
			x, _ := v.p.Get(n)
			want(t, "the page that was given out", x, slotted(3, 0))
			v.wantAsPlain("given out")
		}
		for range 2 {
			n, e := v.h.Give()
			want(t, "Give of nothing", n, 0)
			v.wantRefused("Give of nothing", e, api.ErrFull)
		}
	}
}

// P7.1: what came back is given out ahead of what was never used, the last one that came back first; it is without slots, and its next is the one that came back before.
func TestBack(t *testing.T) {
	v := begun(t, 8)
	for range 5 {
		v.give()
	}
	for _, n := range []int{2, 5, 1} {
		x := slotted(3, 77, "what the caller put there", some(300, n))
		want(t, "Put", v.p.Put(n, x), api.OK)
		v.as.given[n] = x
		v.wantAsPlain("the caller's")
		v.back(n)
		v.wantAsPlain("came back")
	}
	x, _ := v.p.Get(1)
	want(t, "the last one that came back", x, slotted(0, 5))
	x, _ = v.p.Get(2)
	want(t, "the first one that came back", x, slotted(0, 0))
	for _, n := range []int{1, 5, 2, 6, 7} {
		want(t, "Give", v.give(), n)
		v.wantAsPlain("given out again")
	}
	v.back(3)
	want(t, "Give of the last one", v.give(), 3)
	n, e := v.h.Give()
	want(t, "Give of nothing", n, 0)
	v.wantRefused("Give of nothing", e, api.ErrFull)
}

// P7.1: Back of a number that is not from 1 on and below fresh is ErrArg; of a page that is not of the kind 3 it is ErrNone. Nothing is changed.
func TestBackErrors(t *testing.T) {
	v := begun(t, 12)
	v.lay(some(500, 1))
	a, b := v.give(), v.give()
	v.back(a)
	for _, n := range append(noPages(12), 0, 6, 7, 11) {
		v.wantRefused("Back of no page", v.h.Back(n), api.ErrArg)
	}
	for n := 1; n <= 4; n++ {
		if n != b {
			v.wantRefused("Back of another's page", v.h.Back(n), api.ErrNone)
		}
	}
	v.back(b)
	v.wantRefused("Back, twice", v.h.Back(b), api.ErrNone)
	v.wantRefused("Back, twice", v.h.Back(a), api.ErrNone)
}

// none are heaps that are not there, and pools.
func none() ([]*heap.Heap, []*pool.Pool) { return []*heap.Heap{nil, {}}, []*pool.Pool{nil, {}} }

// wantAll: do all calls of a heap tell this error, whatever else is wrong, and nothing beside it?
func wantAll(t *testing.T, what string, h *heap.Heap, wanted api.Errno) {
	t.Helper()
	n, e := h.Give()
	want(t, what+": Give", n, 0)
	want(t, what+": Give's error", e, wanted)
	for _, n := range append(noPages(9), 0, 1, 2, 8) {
		want(t, what+": Back", h.Back(n), wanted)
		want(t, what+": SetRoot", h.SetRoot(n), wanted)
	}
	for _, at := range []api.Place{{}, {Page: 1}, {Page: 1, Slot: 1}, {Page: -1}, {Page: 1 << 40, Slot: -7}} {
		b, e := h.Get(at)
		want(t, what+": Get's error", e, wanted)
		want(t, what+": Get", len(b), 0)
		want(t, what+": Take", h.Take(at), wanted)
		for _, long := range []int{0, 1, 400, 20000, 20001, 90000} {
			is, e := h.Put(at, make([]byte, long))
			want(t, what+": Put's error", e, wanted)
			want(t, what+": Put", is, api.Place{})
			is, e = h.Lay(make([]byte, long))
			want(t, what+": Lay's error", e, wanted)
			want(t, what+": Lay", is, api.Place{})
		}
	}
	wantNothing(t, what, h)
}

// wantNothing: does a heap tell nothing of itself?
func wantNothing(t *testing.T, what string, h *heap.Heap) {
	t.Helper()
	wantPairs(t, what+": All", h.All())
	want(t, what+": Room", h.Room(), 0)
	want(t, what+": Root", h.Root(), 0)
	wantList(t, what+": Uses", h.Uses())
}

// P7.1 to P7.3, P0.6: a heap that is not there is ErrNil, ahead of all; so is a pool.
func TestNone(t *testing.T) {
	heaps, pools := none()
	for _, h := range heaps {
		wantAll(t, "no heap", h, api.ErrNil)
	}
	for _, p := range pools {
		want(t, "Format of no pool", heap.Format(p), api.ErrNil)
		h, e := heap.Open(p)
		want(t, "Open of no pool", e, api.ErrNil)
		want(t, "there is no heap", h == nil, true)
	}
}

// P7.1 to P7.3: on a dead pool all is ErrDead, ahead of all but ErrNil.
func TestDead(t *testing.T) {
	v := begun(t, 9)
	v.lay(some(500, 1))
	v.give()
	v.setRoot(5)
	all := v.h.All()
	kill(t, v.d)
	wantAll(t, "a dead pool", v.h, api.ErrDead)
	want(t, "Format of a dead pool", heap.Format(v.p), api.ErrDead)
	h, e := heap.Open(v.p)
	want(t, "Open of a dead pool", e, api.ErrDead)
	want(t, "there is no heap", h == nil, true)
	wantPairs(t, "All that was called before", all, v.as.pairs()...)
}

// kill makes a disk die.
func kill(t *testing.T, d *disk.Disk) {
	t.Helper()
	want(t, "Fuse", d.Fuse(0), api.OK)
	want(t, "a step", d.Flush(), api.ErrDead)
}
