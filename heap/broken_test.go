package heap_test

import (
	"maps"
	"math/rand"
	"slices"
	"testing"

	"coupon/api"
	"coupon/heap"
	"coupon/page"
)

// sound is a heap that has some of all: the pages 5 and 1 of records, in that order; a record of 1000 bytes in the parts 4, 3 and 2; 7 and 6 came back, in that order; 8 is the caller's; fresh is 9 of 12. It is committed.
func sound(t *testing.T) *both {
	t.Helper()
	v := begun(t, 12)
	v.lay("one")
	v.lay(some(1000, 1))
	v.lay(some(300, 2))
	v.lay(some(399, 3))
	for range 3 {
		v.give()
	}
	v.back(6)
	v.back(7)
	wantList(t, "what is what", v.h.Uses(), 4, 1, 2, 2, 2, 1, 0, 0, 3, 0, 0, 0)
	want(t, "Commit", v.p.Commit(), api.OK)
	return v
}

// calls are some of all calls of that heap, by what they are.
func calls(h *heap.Heap) map[string]func() (bool, api.Errno) {
	place := func(at api.Place, e api.Errno) (bool, api.Errno) { return at == api.Place{}, e }
	bare := func(e api.Errno) (bool, api.Errno) { return true, e }
	lay := func(long int) func() (bool, api.Errno) {
		return func() (bool, api.Errno) { return place(h.Lay(make([]byte, long))) }
	}
	put := func(n, slot, long int) func() (bool, api.Errno) {
		return func() (bool, api.Errno) { return place(h.Put(api.Place{Page: n, Slot: slot}, make([]byte, long))) }
	}
	get := func(n, slot int) func() (bool, api.Errno) {
		return func() (bool, api.Errno) {
			b, e := h.Get(api.Place{Page: n, Slot: slot})
			return b == nil, e
		}
	}
	take := func(n int, slots ...int) func() (bool, api.Errno) {
		return func() (bool, api.Errno) {
			for _, slot := range slots[1:] {
				h.Take(api.Place{Page: n, Slot: slot})
			}
			return bare(h.Take(api.Place{Page: n, Slot: slots[0]}))
		}
	}
	give := func() (bool, api.Errno) {
		n, e := h.Give()
		return n == 0, e
	}
	return map[string]func() (bool, api.Errno){
		"give": give, "give both": func() (bool, api.Errno) { h.Give(); return give() },
		"back":    func() (bool, api.Errno) { return bare(h.Back(8)) },
		"get one": get(1, 0), "get long": get(1, 1), "get head": get(5, 0),
		"lay small": lay(20), "lay middle": lay(150), "lay new": lay(399), "lay parts": lay(400),
		"put one": put(1, 0, 5), "put long": put(1, 1, 5), "put moved": put(1, 0, 399), "put head": put(5, 0, 10),
		"take one": take(1, 0), "take long": take(1, 1), "take head": take(5, 0), "take tail": take(1, 0, 2, 1),
	}
}

// Which of the calls meet what: the cell of the long record, and its parts; a cell of the page 1; the pages of records behind the first one; a page that came back.
func meetLong() []string { return []string{"get long", "put long", "take long"} }
func meetPage() []string { return append(meetLong(), "get one", "put one", "take one", "take tail") }
func meetList() []string { return []string{"lay middle", "lay new", "put moved"} }
func meetFree() []string { return []string{"give", "give both", "lay new", "lay parts", "put moved"} }

// broken is what is wrong with a page of the heap; which calls tell ErrBytes, and which ErrNone; all others do what they do.
type broken struct {
	n     int
	x     api.Page
	bytes []string
	none  []string
}

// wantBroken: do the calls tell just these errors, each of them called on the heap anew?
func wantBroken(t *testing.T, what string, b broken) {
	t.Helper()
	v := sound(t)
	want(t, "Put", v.p.Put(b.n, b.x), api.OK)
	want(t, "Commit", v.p.Commit(), api.OK)
	was := pages(t, v.p)
	for name, call := range calls(v.h) {
		zero, e := call()
		wanted := api.OK
		if slices.Contains(b.bytes, name) {
			wanted = api.ErrBytes
		} else if slices.Contains(b.none, name) {
			wanted = api.ErrNone
		}
		want(t, what+": "+name, e, wanted)
		if e != api.OK {
			want(t, what+": "+name+": nothing beside the error", zero, true)
		}
		if e != api.OK && name != "give both" && name != "take tail" {
			wantList(t, what+": "+name+": nothing is changed", changed(t, v.p, was))
		}
		want(t, "Abort", v.p.Abort(), api.OK)
	}
}

// with is a page with another record in a slot.
func with(x api.Page, slot int, record string) api.Page {
	x, _ = page.Put(x, slot, []byte(record))
	return x
}

// linked is a page with another next.
func linked(x api.Page, next int) api.Page {
	x, _ = page.Link(x, next)
	return x
}

// noise is a page that may not be, that begins with this kind.
func noise(kind int) api.Page {
	x := api.Page(slices.Repeat([]byte{byte(1)}, 512))
	x[0] = byte(kind)
	return x
}

// P7.1, P7.2: of the sound heap nothing is ErrBytes.
func TestSound(t *testing.T) {
	v := sound(t)
	x, _ := v.p.Get(1)
	wantBroken(t, "sound", broken{1, x, nil, nil})
	v.wantAsPlain("sound")
}

// P7.2: a page of records that is not what it should be is ErrBytes to those that meet it; All goes over nothing then.
func TestBrokenRecords(t *testing.T) {
	v := sound(t)
	x, _ := v.p.Get(1)
	head, _ := v.p.Get(5)
	onward := append(meetList(), "take tail")
	ahead := append(onward, "lay small", "lay parts", "take head")
	comesRound := []string{"lay new", "put moved"}
	inRoom := x
	inRoom[100] = 1
	for what, b := range map[string]broken{
		"noughts":               {1, api.Page{}, append(meetList(), meetPage()...), nil},
		"no page":               {1, noise(1), append(meetList(), meetPage()...), nil},
		"a byte in its room":    {1, inRoom, append(meetList(), meetPage()...), nil},
		"next is fresh":         {1, linked(x, 9), onward, nil},
		"next is no page":       {1, linked(x, 1<<31-1), onward, nil},
		"next comes round":      {1, linked(x, 5), comesRound, nil},
		"next is itself":        {1, linked(x, 1), comesRound, nil},
		"next is a part":        {1, linked(x, 3), comesRound, nil},
		"the head's is fresh":   {5, linked(head, 9), ahead, nil},
		"the head's is itself":  {5, linked(head, 5), onward, nil},
		"the head's came back":  {5, linked(head, 6), onward, nil},
		"the head's is given":   {5, linked(head, 8), onward, nil},
		"the head's is the end": {5, linked(head, 0), []string{"take tail"}, nil},
	} {
		wantBroken(t, "a page of records: "+what, b)
		if what != "the head's is the end" {
			wantNoRecords(t, what, b)
		}
	}
}

// P7.2: a place in a page of another kind has no record, though it has cells; among the pages of records that page is ErrBytes.
func TestBrokenKind(t *testing.T) {
	for what, x := range map[string]api.Page{
		"one that came back": slotted(0, 0),
		"no records":         slotted(1, 0),
		"a part":             slotted(2, 0, "\x00one", "\x00two", "\x00three"),
		"a caller's":         slotted(3, 0, "\x00one", "\x00two", "\x00three"),
		"a first page":       slotted(4, 0, "\x00one", "\x00two", "\x00three"),
	} {
		b := broken{1, x, []string{"lay middle", "lay new"}, append(meetPage(), "put moved")}
		wantBroken(t, "a page of records: "+what, b)
		wantNoRecords(t, what, b)
	}
}

// wantNoRecords: does All go over nothing?
func wantNoRecords(t *testing.T, what string, b broken) {
	t.Helper()
	v := sound(t)
	want(t, "Put", v.p.Put(b.n, b.x), api.OK)
	wantPairs(t, what+": All", v.h.All())
}

// P7.2: so is a cell.
func TestBrokenCells(t *testing.T) {
	v := sound(t)
	x, _ := v.p.Get(1)
	for what, cell := range map[string]string{
		"no bytes":                      "",
		"another mark":                  "\x02" + longCell(1000, 4)[1:],
		"the greatest mark":             "\xff",
		"a long one's mark alone":       "\x01",
		"a byte fewer":                  longCell(1000, 4)[:8],
		"a byte more":                   longCell(1000, 4) + "\x00",
		"a length of a short one":       longCell(399, 2),
		"no length":                     longCell(0, 0),
		"too great a length":            longCell(20001, 4),
		"the greatest length":           longCell(1<<32-1, 4),
		"a byte more than the parts":    longCell(1001, 4),
		"a byte fewer than the parts":   longCell(999, 4),
		"a part more":                   longCell(1200, 4),
		"many parts more":               longCell(20000, 4),
		"a part fewer":                  longCell(800, 4),
		"two parts fewer":               longCell(400, 4),
		"no first part":                 longCell(1000, 0),
		"the second part":               longCell(1000, 3),
		"a first part that is fresh":    longCell(1000, 9),
		"a first part that is no page":  longCell(1000, 12),
		"the greatest first part":       longCell(1000, 1<<32-1),
		"a first part of records":       longCell(400, 5),
		"a first part that came back":   longCell(400, 6),
		"a first part of the caller's":  longCell(400, 8),
		"a first part that is the page": longCell(400, 1),
	} {
		b := broken{1, with(x, 1, cell), meetLong(), nil}
		wantBroken(t, "a cell: "+what, b)
		wantNoRecords(t, what, b)
	}
}

// P7.2: so is a part.
func TestBrokenParts(t *testing.T) {
	v := sound(t)
	first, _ := v.p.Get(4)
	last, _ := v.p.Get(2)
	text := some(1000, 1)
	for what, b := range map[string]broken{
		"noughts":                   {n: 4},
		"no page":                   {n: 4, x: noise(2)},
		"one that came back":        {n: 4, x: slotted(0, 3)},
		"of records":                {n: 4, x: slotted(1, 3, text[:400])},
		"the caller's":              {n: 4, x: slotted(3, 3, text[:400])},
		"no cell":                   {n: 4, x: slotted(2, 3)},
		"a byte fewer":              {n: 4, x: slotted(2, 3, text[:399])},
		"two cells":                 {n: 4, x: slotted(2, 3, text[:400], "x")},
		"two cells of the bytes":    {n: 4, x: slotted(2, 3, text[:200], text[200:400])},
		"a cell in the second slot": {n: 4, x: slotted(2, 3, "", text[:400])},
		"no next":                   {n: 4, x: linked(first, 0)},
		"next is itself":            {n: 4, x: linked(first, 4)},
		"next is the last one":      {n: 4, x: linked(first, 2)},
		"next is fresh":             {n: 4, x: linked(first, 9)},
		"next is no page":           {n: 4, x: linked(first, 12)},
		"next is of records":        {n: 4, x: linked(first, 1)},
		"the last one, noughts":     {n: 2},
		"the last one, short":       {n: 2, x: slotted(2, 0, text[800:999])},
		"the last one, long":        {n: 2, x: slotted(2, 0, text[800:]+"x")},
		"the last one, full":        {n: 2, x: slotted(2, 0, text[600:])},
		"the last one, and another": {n: 2, x: linked(last, 3)},
		"the last one, and itself":  {n: 2, x: linked(last, 2)},
		"the last one, and fresh":   {n: 2, x: linked(last, 9)},
		"the last one, and records": {n: 2, x: linked(last, 5)},
	} {
		b.bytes = meetLong()
		wantBroken(t, "a part: "+what, b)
		wantNoRecords(t, what, b)
	}
}

// P7.2: a part behind the last one that has no bytes is one too many.
func TestBrokenEmptyPart(t *testing.T) {
	v := sound(t)
	x, _, _ := page.Lay(slotted(2, 0), nil)
	want(t, "Put", v.p.Put(8, x), api.OK)
	want(t, "Put", v.p.Put(2, slotted(2, 8, some(1000, 1)[800:])), api.OK)
	_, e := v.h.Get(api.Place{Page: 1, Slot: 1})
	want(t, "Get", e, api.ErrBytes)
	want(t, "Take", v.h.Take(api.Place{Page: 1, Slot: 1}), api.ErrBytes)
}

// P7.2: parts of other lengths are ErrBytes, though they make up the record; so is a part that was never used, though it looks like one.
func TestBrokenSizes(t *testing.T) {
	text := some(1000, 1)
	for what, l := range map[string]map[int]api.Page{
		"the first one short, the last one long": {4: slotted(2, 3, text[:399]), 3: slotted(2, 2, text[399:799]), 2: slotted(2, 0, text[799:])},
		"the next one short, the last one long":  {3: slotted(2, 2, text[400:700]), 2: slotted(2, 0, text[700:])},
		"of one byte fewer, of two parts":        {4: slotted(2, 2, text[:400]), 1: slotted(1, 0, "\x00one", longCell(601, 4))},
		"a first part that was never used":       {9: slotted(2, 3, text[:400]), 1: slotted(1, 0, "\x00one", longCell(1000, 9))},
		"a next part that was never used":        {9: slotted(2, 2, text[400:800]), 4: slotted(2, 9, text[:400])},
	} {
		v := sound(t)
		for n, x := range l {
			want(t, "Put", v.p.Put(n, x), api.OK)
		}
		at := api.Place{Page: 1, Slot: 1}
		_, e := v.h.Get(at)
		want(t, what+": Get", e, api.ErrBytes)
		_, e = v.h.Put(at, nil)
		want(t, what+": Put", e, api.ErrBytes)
		want(t, what+": Take", v.h.Take(at), api.ErrBytes)
		wantGet(t, what+": beside it", v.h, api.Place{Page: 1}, "one")
		wantPairs(t, what+": All", v.h.All())
	}
}

// P7.1: so is a page that came back; those that are given none do not meet it.
func TestBrokenFree(t *testing.T) {
	for what, b := range map[string]broken{
		"noughts":               {n: 7},
		"no page":               {n: 7, x: noise(0)},
		"of records":            {n: 7, x: slotted(1, 6)},
		"a part":                {n: 7, x: slotted(2, 6)},
		"the caller's":          {n: 7, x: slotted(3, 6)},
		"a cell":                {n: 7, x: slotted(0, 6, "x")},
		"next is fresh":         {n: 7, x: slotted(0, 9)},
		"next is no page":       {n: 7, x: slotted(0, 12)},
		"no next":               {n: 7, x: slotted(0, 0)},
		"the last one":          {n: 6},
		"the last one has next": {n: 6, x: slotted(0, 4)},
		"the last one is given": {n: 6, x: slotted(3, 0)},
		"next is itself":        {n: 7, x: slotted(0, 7)},
	} {
		b.bytes = meetFree()
		if b.n == 6 || what == "next is itself" {
			b.bytes = []string{"give both"}
		}
		wantBroken(t, "a page that came back: "+what, b)
	}
}

// P7.1: where not as many came back as the first page tells, those that meet it are ErrBytes.
func TestBrokenCount(t *testing.T) {
	for what, b := range map[string]broken{
		"one fewer":             {0, firstPage(9, 7, 1, 5, 0), meetFree(), nil},
		"one more":              {0, firstPage(9, 7, 3, 5, 0), []string{"give both"}, nil},
		"all, though others do": {0, firstPage(9, 7, 8, 5, 0), []string{"give both", "back", "put long", "take long", "take head"}, nil},
	} {
		wantBroken(t, "how many came back: "+what, b)
	}
	v := sound(t)
	for range 5 {
		v.give()
	}
	want(t, "no page is left but those that came back", v.h.Room(), 0)
	v.back(9)
	v.back(8)
	want(t, "Put", v.p.Put(8, slotted(0, 0)), api.OK)
	_, e := v.h.Lay(make([]byte, 800))
	want(t, "a list that is too short, where it is needed", e, api.ErrBytes)
}

// P7.1: Back of a page that may not be is ErrBytes, of another kind ErrNone.
func TestBrokenGiven(t *testing.T) {
	for what, b := range map[string]broken{
		"noughts":      {8, api.Page{}, []string{"back"}, nil},
		"no page":      {8, noise(3), []string{"back"}, nil},
		"of no kind":   {8, noise(9), []string{"back"}, nil},
		"of records":   {8, slotted(1, 0, "\x00x"), nil, []string{"back"}},
		"a part":       {8, slotted(2, 0, "x"), nil, []string{"back"}},
		"of the first": {8, slotted(4, 0, "x"), nil, []string{"back"}},
		"came back":    {8, slotted(0, 0), nil, []string{"back"}},
		"of a next":    {8, slotted(3, 99, "x"), nil, nil},
		"many cells":   {8, slotted(3, 1<<31-1, "x", "", "y"), nil, nil},
	} {
		wantBroken(t, "the caller's: "+what, b)
	}
	v := sound(t)
	want(t, "Put", v.p.Put(8, noise(3)), api.OK)
	want(t, "Put", v.p.Put(5, api.Page{}), api.OK)
	wantList(t, "Uses: pages that may not be are of no kind", v.h.Uses(), 4, 1, 2, 2, 2, 0, 0, 0, 0, 0, 0, 0)
}

// P7.1 to P7.3: where the first page is none any more, all is ErrBytes, behind ErrArg and ErrLong.
func TestBrokenFirst(t *testing.T) {
	bad := badFirsts()
	for _, what := range slices.Sorted(maps.Keys(bad)) {
		v := begun(t, 9)
		v.lay(some(500, 1))
		v.give()
		want(t, "Put", v.p.Put(0, bad[what]), api.OK)
		was := pages(t, v.p)
		for name, call := range calls(v.h) {
			zero, e := call()
			want(t, what+": "+name, e, api.ErrBytes)
			want(t, what+": "+name+": nothing beside the error", zero, true)
		}
		for _, n := range append(noPages(9), 0) {
			want(t, what+": Back of no page", v.h.Back(n), api.ErrArg)
		}
		for _, n := range noPages(9) {
			want(t, what+": SetRoot of no page", v.h.SetRoot(n), api.ErrArg)
		}
		want(t, what+": SetRoot", v.h.SetRoot(3), api.ErrBytes)
		_, e := v.h.Lay(make([]byte, 20001))
		want(t, what+": Lay of too long a record", e, api.ErrLong)
		_, e = v.h.Put(api.Place{Page: -1}, make([]byte, 20001))
		want(t, what+": Put of too long a record", e, api.ErrLong)
		_, e = v.h.Get(api.Place{Page: -1})
		want(t, what+": Get of no record", e, api.ErrBytes)
		wantNothing(t, what, v.h)
		wantList(t, what+": nothing is changed", changed(t, v.p, was))
	}
}

// spoil spoils pages by chance: bytes, whole pages, nexts, or one page by another.
func spoil(t *testing.T, c *rand.Rand, v *both) {
	t.Helper()
	for range 1 + c.Intn(3) {
		n := c.Intn(9)
		x, _ := v.p.Get(n)
		other, _ := v.p.Get(c.Intn(12))
		switch c.Intn(5) {
		case 0:
			x[c.Intn(40)] = byte(c.Intn(12))
		case 1:
			x[511-c.Intn(40)] = byte(c.Intn(256))
		case 2:
			x = linked(x, c.Intn(14))
		case 3:
			x = other
		default:
			slot := c.Intn(3)
			b := []byte(longCell(350+c.Intn(1200), c.Intn(10)))
			b[0] = byte(c.Intn(3))
			x = with(x, slot, string(b))
		}
		want(t, "Put", v.p.Put(n, x), api.OK)
	}
}

// P0.6: whatever is wrong with pages, each call ends, and tells an error that it may tell, with nothing beside it, and nothing changed.
func TestSpoiled(t *testing.T) {
	v := sound(t)
	told := map[api.Errno]int{}
	for seed := range 1500 {
		c := rand.New(rand.NewSource(int64(seed)))
		spoil(t, c, v)
		names := slices.Sorted(maps.Keys(calls(v.h)))
		for range 12 {
			name := names[c.Intn(len(names))]
			was := pages(t, v.p)
			zero, e := calls(v.h)[name]()
			told[e]++
			if e != api.OK && name != "give both" && name != "take tail" {
				want(t, name+": nothing beside the error", zero, true)
				wantList(t, name+": nothing is changed", changed(t, v.p, was))
			}
			for range v.h.All() {
			}
			v.h.Uses()
			want(t, "Room is none below 0, or more than there are", v.h.Room() >= 0 && v.h.Room() < 12, true)
		}
		want(t, "Abort", v.p.Abort(), api.OK)
		if t.Failed() {
			t.Fatalf("seed %d", seed)
		}
	}
	for _, e := range []api.Errno{api.OK, api.ErrBytes, api.ErrNone, api.ErrFull} {
		want(t, "each is told often", told[e] > 20, true)
		delete(told, e)
	}
	want(t, "no other one is told", len(told), 0)
}
