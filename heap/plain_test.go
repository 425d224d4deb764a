package heap_test

import (
	"encoding/binary"
	"iter"
	"maps"
	"math"
	"slices"
	"testing"

	"coupon/api"
	"coupon/disk"
	"coupon/heap"
	"coupon/pool"
)

// plain is a heap as the document says it, on so many pages: the first one that was never used; those that came back, the last one last; the pages of records in their order, the cells of each ("": an empty slot, for each cell has a byte); the parts; the caller's pages and number. Beside it, how pages were ahead of it all.
type plain struct {
	pages, fresh, root int
	back, chain        []int
	cells              map[int][]string
	parts              map[int]part
	given              map[int]api.Page
	old                []api.Page
}

// part is a page of a long record: the next one, and its bytes.
type part struct {
	next  int
	bytes string
}

// plainOn is a heap that was just formatted on pages that are so.
func plainOn(old []api.Page) *plain {
	return &plain{pages: len(old), fresh: 1, cells: map[int][]string{}, parts: map[int]part{}, given: map[int]api.Page{}, old: old}
}

// copied goes on apart.
func (x *plain) copied() *plain {
	y := *x
	y.back, y.chain = slices.Clone(x.back), slices.Clone(x.chain)
	y.cells, y.parts, y.given = map[int][]string{}, maps.Clone(x.parts), maps.Clone(x.given)
	for n, l := range x.cells {
		y.cells[n] = slices.Clone(l)
	}
	return &y
}

// room is how many pages can be given out.
func (x *plain) room() int { return x.pages - x.fresh + len(x.back) }

// page is the page that is given out next; there must be one.
func (x *plain) page() int {
	if many := len(x.back); many > 0 {
		n := x.back[many-1]
		x.back = x.back[:many-1]
		return n
	}
	x.fresh++
	return x.fresh - 1
}

// give is Give.
func (x *plain) give() (int, api.Errno) {
	if x.room() == 0 {
		return 0, api.ErrFull
	}
	n := x.page()
	x.given[n] = slotted(3, 0)
	return n, api.OK
}

// giveBack is Back of pages that may be.
func (x *plain) giveBack(n int) api.Errno {
	if n < 1 || n >= x.fresh {
		return api.ErrArg
	}
	if _, is := x.given[n]; !is {
		return api.ErrNone
	}
	delete(x.given, n)
	x.back = append(x.back, n)
	return api.OK
}

// lengthOf is how long a record's cell is, and how many parts it has.
func lengthOf(record string) (cell, parts int) {
	if len(record) < 400 {
		return 1 + len(record), 0
	}
	return 9, (len(record)-1)/400 + 1
}

// left is how many bytes of a page are free, that has these cells.
func left(l []string) int {
	n := 512 - 12 - 4*len(l)
	for _, c := range l {
		n -= len(c)
	}
	return n
}

// slotFor is the slot in which a cell of so many bytes is laid, if there is room.
func slotFor(l []string, long int) (int, bool) {
	if slot := slices.Index(l, ""); slot >= 0 {
		return slot, left(l) >= long
	}
	return len(l), left(l) >= 4+long
}

// goal is the first page of records that has room for a cell of so many bytes; 0: none.
func (x *plain) goal(long int) int {
	for _, n := range x.chain {
		if _, is := slotFor(x.cells[n], long); is {
			return n
		}
	}
	return 0
}

// cell is a record's cell; its parts are given out, the last one first.
func (x *plain) cell(record string) string {
	_, many := lengthOf(record)
	if many == 0 {
		return "\x00" + record
	}
	next := 0
	for i := many - 1; i >= 0; i-- {
		n := x.page()
		x.parts[n] = part{next, record[400*i : min(len(record), 400*i+400)]}
		next = n
	}
	b := binary.BigEndian.AppendUint32([]byte{1}, uint32(len(record)))
	return string(binary.BigEndian.AppendUint32(b, uint32(next)))
}

// record is a cell's record.
func (x *plain) record(cell string) string {
	if cell[0] == 0 {
		return cell[1:]
	}
	b := ""
	for _, n := range x.partsOf(cell) {
		b += x.parts[n].bytes
	}
	return b
}

// partsOf are a cell's parts, in order.
func (x *plain) partsOf(cell string) (l []int) {
	if cell[0] == 0 {
		return nil
	}
	for n := int(binary.BigEndian.Uint32([]byte(cell[5:]))); n != 0; n = x.parts[n].next {
		l = append(l, n)
	}
	return l
}

// at is a place's cell.
func (x *plain) at(at api.Place) (string, bool) {
	l := x.cells[at.Page]
	if at.Slot < 0 || at.Slot >= len(l) {
		return "", false
	}
	return l[at.Slot], l[at.Slot] != ""
}

// get is Get.
func (x *plain) get(at api.Place) (string, api.Errno) {
	if c, is := x.at(at); is {
		return x.record(c), api.OK
	}
	return "", api.ErrNone
}

// lay is Lay: whether there are pages enough is told ahead.
func (x *plain) lay(record string) (api.Place, api.Errno) {
	if len(record) > 20000 {
		return api.Place{}, api.ErrLong
	}
	long, need := lengthOf(record)
	n := x.goal(long)
	if n == 0 {
		need++
	}
	if need > x.room() {
		return api.Place{}, api.ErrFull
	}
	c := x.cell(record)
	if n == 0 {
		n = x.page()
		x.chain = slices.Insert(x.chain, 0, n)
	}
	slot, _ := slotFor(x.cells[n], long)
	x.cells[n] = append(x.cells[n], make([]string, slot+1-min(slot+1, len(x.cells[n])))...)
	x.cells[n][slot] = c
	return api.Place{Page: n, Slot: slot}, api.OK
}

// scrap lets a cell's parts come back.
func (x *plain) scrap(cell string) {
	for _, n := range x.partsOf(cell) {
		delete(x.parts, n)
		x.back = append(x.back, n)
	}
}

// take is Take.
func (x *plain) take(at api.Place) api.Errno {
	c, is := x.at(at)
	if !is {
		return api.ErrNone
	}
	x.scrap(c)
	l := x.cells[at.Page]
	l[at.Slot] = ""
	for len(l) > 0 && l[len(l)-1] == "" {
		l = l[:len(l)-1]
	}
	x.cells[at.Page] = l
	if len(l) == 0 {
		delete(x.cells, at.Page)
		x.chain = slices.DeleteFunc(x.chain, func(n int) bool { return n == at.Page })
		x.back = append(x.back, at.Page)
	}
	return api.OK
}

// put is Put, of which nothing is done where it is refused.
func (x *plain) put(at api.Place, record string) (api.Place, api.Errno) {
	c, is := x.at(at)
	switch {
	case len(record) > 20000:
		return api.Place{}, api.ErrLong
	case !is:
		return api.Place{}, api.ErrNone
	}
	y := x.copied()
	long, need := lengthOf(record)
	e := api.OK
	if left(x.cells[at.Page])+len(c) < long {
		y.take(at)
		at, e = y.lay(record)
	} else if y.scrap(c); need > y.room() {
		e = api.ErrFull
	} else {
		y.cells[at.Page][at.Slot] = y.cell(record)
	}
	if e != api.OK {
		return api.Place{}, e
	}
	*x = *y
	return at, api.OK
}

// rooted is SetRoot.
func (x *plain) rooted(n int) api.Errno {
	if n < 0 || n >= x.pages {
		return api.ErrArg
	}
	x.root = n
	return api.OK
}

// pair is a record, and its place.
type pair struct {
	at     api.Place
	record string
}

// pairs are all records, in the order in which they are gone over.
func (x *plain) pairs() []pair {
	var l []pair
	for _, n := range x.chain {
		for slot, c := range x.cells[n] {
			if c != "" {
				l = append(l, pair{api.Place{Page: n, Slot: slot}, x.record(c)})
			}
		}
	}
	return l
}

// image are all pages' bytes.
func (x *plain) image() []api.Page {
	l := slices.Clone(x.old)
	free := 0
	for _, n := range x.back {
		l[n] = slotted(0, free)
		free = n
	}
	next := 0
	for _, n := range slices.Backward(x.chain) {
		l[n] = slotted(1, next, x.cells[n]...)
		next = n
	}
	for n, p := range x.parts {
		l[n] = slotted(2, p.next, p.bytes)
	}
	for n, p := range x.given {
		l[n] = p
	}
	l[0] = firstPage(x.fresh, free, len(x.back), next, x.root)
	return l
}

// uses is what each page is.
func (x *plain) uses() []int {
	l := make([]int, x.pages)
	l[0] = 4
	for n := range x.cells {
		l[n] = 1
	}
	for n := range x.parts {
		l[n] = 2
	}
	for n := range x.given {
		l[n] = 3
	}
	return l
}

// slotted is a slotted page, as layer 5 says it; "" is an empty slot.
func slotted(kind, next int, cells ...string) (p api.Page) {
	slots, behind := []byte{}, []byte{}
	for _, c := range cells {
		behind = append([]byte(c), behind...)
		begin := 512 - len(behind)
		if c == "" {
			begin = 0
		}
		slots = binary.BigEndian.AppendUint16(slots, uint16(begin))
		slots = binary.BigEndian.AppendUint16(slots, uint16(len(c)))
	}
	b := []byte{byte(kind), 0}
	b = binary.BigEndian.AppendUint16(b, uint16(len(cells)))
	b = binary.BigEndian.AppendUint16(b, uint16(512-len(behind)))
	b = append(b, 0, 0)
	b = binary.BigEndian.AppendUint32(b, uint32(next))
	copy(p[:], append(b, slots...))
	copy(p[512-len(behind):], behind)
	return p
}

// firstPage is a heap's first page.
func firstPage(fresh, free, many, records, root int) api.Page {
	b := []byte("HEAP")
	for _, n := range []int{fresh, free, many, records, root} {
		b = binary.BigEndian.AppendUint32(b, uint32(n))
	}
	return slotted(4, 0, string(b))
}

// longCell is the cell of a long record.
func longCell(long, part int) string {
	b := binary.BigEndian.AppendUint32([]byte{1}, uint32(long))
	return string(binary.BigEndian.AppendUint32(b, uint32(part)))
}

// some are so many bytes, unlike those of another number (up to 250), none of them 0.
func some(n, other int) string {
	b := make([]byte, n)
	for i := range b {
		b[i] = byte((i+7*other)%251 + 1)
	}
	return string(b)
}

// littered is a pool of so many pages, each with something that no heap has.
func littered(t *testing.T, pages int) (*disk.Disk, *pool.Pool) {
	t.Helper()
	d, e := disk.New(1 + 400 + 4*pages)
	want(t, "New", e, api.OK)
	want(t, "pool.Format", pool.Format(d, 400), api.OK)
	p, e := pool.Open(d, 400, 5)
	want(t, "pool.Open", e, api.OK)
	for n := range pages {
		x := api.Page(slices.Repeat([]byte{byte(1 + n%250)}, 512))
		want(t, "Put", p.Put(n, x), api.OK)
		if n%50 == 49 || n == pages-1 {
			want(t, "Commit", p.Commit(), api.OK)
		}
	}
	return d, p
}

// pages are all pages of a pool.
func pages(t *testing.T, p *pool.Pool) []api.Page {
	t.Helper()
	var l []api.Page
	for n := range p.Pages() {
		x, e := p.Get(n)
		want(t, "Get", e, api.OK)
		l = append(l, x)
	}
	return l
}

// both is a heap, and the plain one.
type both struct {
	t  *testing.T
	d  *disk.Disk
	p  *pool.Pool
	h  *heap.Heap
	as *plain
}

// begun is a heap that was just formatted, on so many pages.
func begun(t *testing.T, many int) *both {
	t.Helper()
	d, p := littered(t, many)
	v := &both{t: t, d: d, p: p, as: plainOn(pages(t, p))}
	want(t, "Format", heap.Format(p), api.OK)
	v.open()
	return v
}

// open opens the heap; it must open.
func (v *both) open() {
	v.t.Helper()
	h, e := heap.Open(v.p)
	if e != api.OK || h == nil {
		v.t.Fatalf("Open answers %v", e)
	}
	v.h = h
}

// lay is Lay, of both.
func (v *both) lay(record string) api.Place {
	v.t.Helper()
	at, e := v.h.Lay([]byte(record))
	wanted, f := v.as.lay(record)
	want(v.t, "Lay's error", e, f)
	want(v.t, "Lay", at, wanted)
	return at
}

// put is Put, of both.
func (v *both) put(at api.Place, record string) api.Place {
	v.t.Helper()
	is, e := v.h.Put(at, []byte(record))
	wanted, f := v.as.put(at, record)
	want(v.t, "Put's error", e, f)
	want(v.t, "Put", is, wanted)
	return is
}

// take is Take, of both.
func (v *both) take(at api.Place) {
	v.t.Helper()
	want(v.t, "Take", v.h.Take(at), v.as.take(at))
}

// give is Give, of both.
func (v *both) give() int {
	v.t.Helper()
	n, e := v.h.Give()
	wanted, f := v.as.give()
	want(v.t, "Give's error", e, f)
	want(v.t, "Give", n, wanted)
	return n
}

// back is Back, of both.
func (v *both) back(n int) {
	v.t.Helper()
	want(v.t, "Back", v.h.Back(n), v.as.giveBack(n))
}

// setRoot is SetRoot, of both.
func (v *both) setRoot(n int) {
	v.t.Helper()
	want(v.t, "SetRoot", v.h.SetRoot(n), v.as.rooted(n))
}

// wantAsPlain: is the heap as the plain one, page by page, and does it tell the same?
func (v *both) wantAsPlain(what string) {
	v.t.Helper()
	is := pages(v.t, v.p)
	for n, x := range v.as.image() {
		if is[n] != x {
			v.t.Errorf("%s: the page %d begins with %v; wanted: %v", what, n, is[n][:24], x[:24])
		}
	}
	want(v.t, what+": Room", v.h.Room(), v.as.room())
	want(v.t, what+": Root", v.h.Root(), v.as.root)
	wantList(v.t, what+": Uses", v.h.Uses(), v.as.uses()...)
	wantPairs(v.t, what+": All", v.h.All(), v.as.pairs()...)
	for _, x := range v.as.pairs() {
		wantGet(v.t, what, v.h, x.at, x.record)
	}
	wantList(v.t, what+": what was looked at changed nothing", changed(v.t, v.p, is))
}

// wantRefused: does what was done (it told this error) leave all as it was?
func (v *both) wantRefused(what string, e, wanted api.Errno) {
	v.t.Helper()
	want(v.t, what, e, wanted)
	v.wantAsPlain(what)
}

// changed are the pages of a pool that are not so.
func changed(t *testing.T, p *pool.Pool, was []api.Page) (l []int) {
	t.Helper()
	for n, x := range pages(t, p) {
		if x != was[n] {
			l = append(l, n)
		}
	}
	return l
}

// want: is it what was wanted?
func want[T comparable](t *testing.T, what string, is, wanted T) {
	t.Helper()
	if is != wanted {
		t.Errorf("%s: %v; wanted: %v", what, is, wanted)
	}
}

// wantList: are these the numbers?
func wantList(t *testing.T, what string, is []int, wanted ...int) {
	t.Helper()
	if !slices.Equal(is, wanted) {
		t.Errorf("%s: %v; wanted: %v", what, is, wanted)
	}
}

// wantText: are these the bytes? (A record is too long to be told.)
func wantText(t *testing.T, what string, is []byte, wanted string) {
	t.Helper()
	if string(is) != wanted {
		t.Errorf("%s: %d bytes that begin with %q; wanted: %d that begin with %q", what, len(is), is[:min(len(is), 9)], len(wanted), wanted[:min(len(wanted), 9)])
	}
}

// wantGet: does Get answer this record?
func wantGet(t *testing.T, what string, h *heap.Heap, at api.Place, wanted string) {
	t.Helper()
	b, e := h.Get(at)
	want(t, what+": Get's error", e, api.OK)
	wantText(t, what+": Get", b, wanted)
}

// wantPairs: does it go over just these records?
func wantPairs(t *testing.T, what string, all iter.Seq2[api.Place, []byte], wanted ...pair) {
	t.Helper()
	many := 0
	for at, b := range all {
		if many >= len(wanted) {
			t.Errorf("%s: there is one more, at %v", what, at)
			return
		}
		want(t, what+": the place", at, wanted[many].at)
		wantText(t, what, b, wanted[many].record)
		many++
	}
	want(t, what+": how many", many, len(wanted))
}

// noPages are numbers of pages that none of so many has.
func noPages(pages int) []int {
	return []int{math.MinInt, -1 << 32, -1 << 31, -2, -1, pages, pages + 1, math.MaxInt32, 1 << 31, 1 << 32, 1<<32 + 1, 1 << 62, math.MaxInt}
}

// noSlots are numbers that no page's slots have.
func noSlots() []int {
	return []int{math.MinInt, math.MinInt / 4, -1 << 32, -65536, -2, -1, 125, 126, 255, 256, 65535, 65536, 1 << 30, 1 << 32, math.MaxInt/4 + 1, math.MaxInt}
}
