package tree_test

import (
	"encoding/binary"
	"iter"
	"maps"
	"math"
	"slices"
	"sort"
	"strings"
	"testing"

	"coupon/api"
	"coupon/disk"
	"coupon/heap"
	"coupon/pool"
	"coupon/tree"
)

// plain is a heap with a tree, as the document says them, on so many pages: the first one that was never used; those that came back, the last one last; the nodes, by their pages; the root; the pages that others were given. Beside it, how pages were ahead of it all; whether a page was wanted that there was not.
type plain struct {
	pages, fresh, root int
	back               []int
	nodes              map[int]plainNode
	given              map[int]api.Page
	old                []api.Page
	short              bool
}

// plainNode is a node; plainCell is one of its cells (of a leaf, or of another node).
type plainNode struct {
	level int
	cells []plainCell
}
type plainCell struct {
	key   string
	at    api.Place
	child int
}

// plainOn is a heap that was just formatted on pages that are so, without a tree.
func plainOn(old []api.Page) *plain {
	return &plain{pages: len(old), fresh: 1, nodes: map[int]plainNode{}, given: map[int]api.Page{}, old: old}
}

// copied goes on apart.
func (x *plain) copied() *plain {
	y := *x
	y.back, y.nodes, y.given = slices.Clone(x.back), map[int]plainNode{}, maps.Clone(x.given)
	for n, nd := range x.nodes {
		y.nodes[n] = plainNode{nd.level, slices.Clone(nd.cells)}
	}
	return &y
}

// room is how many pages can be given out.
func (x *plain) room() int { return x.pages - x.fresh + len(x.back) }

// page is the page that is given out next; where there is none, it is short.
func (x *plain) page() int {
	if many := len(x.back); many > 0 {
		n := x.back[many-1]
		x.back = x.back[:many-1]
		return n
	}
	if x.fresh == x.pages {
		x.short = true
		return -1
	}
	x.fresh++
	return x.fresh - 1
}

// tried does what is not short of pages, or nothing.
func (x *plain) tried(f func(y *plain)) api.Errno {
	y := x.copied()
	f(y)
	if y.short {
		return api.ErrFull
	}
	*x = *y
	return api.OK
}

// format is Format of a heap without a tree.
func (x *plain) format() api.Errno {
	return x.tried(func(y *plain) {
		y.root = y.page()
		y.nodes[y.root] = plainNode{}
	})
}

// bytes are a cell's.
func (c plainCell) bytes(level int) string {
	b := append([]byte{byte(len(c.key))}, c.key...)
	if level > 0 {
		return string(binary.BigEndian.AppendUint32(b, uint32(c.child)))
	}
	b = binary.BigEndian.AppendUint32(b, uint32(c.at.Page))
	return string(binary.BigEndian.AppendUint16(b, uint16(c.at.Slot)))
}

// cut is how many of the first cells stay, if a node is split; all of them, if it has room for them.
func (nd plainNode) cut() int {
	all, slots := 0, 12+4+1
	for _, c := range nd.cells {
		all += len(c.bytes(nd.level))
		slots += 4
	}
	if all+slots <= 512 {
		return len(nd.cells)
	}
	for many := len(nd.cells); many > 1; many-- {
		stays := 0
		for _, c := range nd.cells[:many] {
			stays += len(c.bytes(nd.level))
		}
		if stays <= all-stays {
			return many
		}
	}
	return 1
}

// put is Put of what may be.
func (x *plain) put(key string, at api.Place) api.Errno {
	return x.tried(func(y *plain) {
		if right, is := y.insert(y.root, plainCell{key: key, at: at}); is {
			top := y.page()
			y.nodes[top] = plainNode{y.nodes[y.root].level + 1, []plainCell{{child: y.root}, right}}
			y.root = top
		}
	})
}

// insert puts a cell below a node; if that is split, it answers the cell of the new one.
func (x *plain) insert(n int, c plainCell) (plainCell, bool) {
	nd := x.nodes[n]
	if nd.level > 0 {
		at := 0
		for i := range nd.cells {
			if nd.cells[i].key <= c.key {
				at = i
			}
		}
		is := false
		if c, is = x.insert(nd.cells[at].child, c); !is {
			return c, false
		}
	}
	l := []plainCell{c}
	for _, o := range nd.cells {
		if o.key != c.key {
			l = append(l, o)
		}
	}
	sort.Slice(l, func(i, j int) bool { return l[i].key < l[j].key })
	nd.cells = l
	many := nd.cut()
	x.nodes[n] = plainNode{nd.level, slices.Clone(l[:many])}
	if many == len(l) {
		return plainCell{}, false
	}
	right, key := slices.Clone(l[many:]), l[many].key
	if nd.level > 0 {
		right[0].key = ""
	}
	page := x.page()
	x.nodes[page] = plainNode{nd.level, right}
	return plainCell{key: key, child: page}, true
}

// drop is Drop.
func (x *plain) drop(key string) api.Errno {
	if _, e := x.get(key); e != api.OK {
		return e
	}
	x.remove(x.root, key)
	for nd := x.nodes[x.root]; nd.level > 0 && len(nd.cells) == 1; nd = x.nodes[x.root] {
		x.gone(x.root)
		x.root = nd.cells[0].child
	}
	return api.OK
}

// remove takes a key out below a node; is the node gone by that?
func (x *plain) remove(n int, key string) bool {
	nd := x.nodes[n]
	at := -1
	for i, c := range nd.cells {
		if nd.level == 0 && c.key == key || nd.level > 0 && c.key <= key {
			at = i
		}
	}
	if nd.level > 0 && !x.remove(nd.cells[at].child, key) {
		return false
	}
	nd.cells = slices.Delete(nd.cells, at, at+1)
	if nd.level > 0 && at == 0 && len(nd.cells) > 0 {
		nd.cells[0].key = ""
	}
	x.nodes[n] = nd
	if len(nd.cells) > 0 || n == x.root {
		return false
	}
	x.gone(n)
	return true
}

// gone lets a node's page come back.
func (x *plain) gone(n int) {
	delete(x.nodes, n)
	x.back = append(x.back, n)
}

// get is Get of a key that may be.
func (x *plain) get(key string) (api.Place, api.Errno) {
	for _, c := range x.keys() {
		if c.key == key {
			return c.at, api.OK
		}
	}
	return api.Place{}, api.ErrNone
}

// keys are the leaves' cells, by rising keys.
func (x *plain) keys() []plainCell {
	var l []plainCell
	for _, nd := range x.nodes {
		if nd.level == 0 {
			l = append(l, nd.cells...)
		}
	}
	sort.Slice(l, func(i, j int) bool { return l[i].key < l[j].key })
	return l
}

// within are those from one on, below another one.
func (x *plain) within(from, below string) []plainCell {
	var l []plainCell
	for _, c := range x.keys() {
		if c.key >= from && (below == "" || c.key < below) {
			l = append(l, c)
		}
	}
	return l
}

// give is Give.
func (x *plain) give() int {
	n := x.page()
	x.given[n] = slotted(3, 0)
	return n
}

// giveBack is Back.
func (x *plain) giveBack(n int) {
	delete(x.given, n)
	x.back = append(x.back, n)
}

// nodePages are the pages of nodes, rising.
func (x *plain) nodePages() []int { return slices.Sorted(maps.Keys(x.nodes)) }

// image are all pages' bytes.
func (x *plain) image() []api.Page {
	l := slices.Clone(x.old)
	free := 0
	for _, n := range x.back {
		l[n] = slotted(0, free)
		free = n
	}
	for n, nd := range x.nodes {
		l[n] = nd.page()
	}
	for n, p := range x.given {
		l[n] = p
	}
	l[0] = firstPage(x.fresh, free, len(x.back), 0, x.root)
	return l
}

// page is a node's page.
func (nd plainNode) page() api.Page {
	cells := []string{string([]byte{byte(nd.level)})}
	for _, c := range nd.cells {
		cells = append(cells, c.bytes(nd.level))
	}
	return slotted(3, 0, cells...)
}

// slotted is a slotted page, as layer 5 says it; "" is an empty slot.
func slotted(kind, next int, cells ...string) (p api.Page) {
	slots, behind := []byte{}, []byte{}
	for _, c := range cells {
		behind = append([]byte(c), behind...)
		begin := 512 - len(behind)
		if c == "" {
			begin = 0
		}
		slots = binary.BigEndian.AppendUint16(slots, uint16(begin))
		slots = binary.BigEndian.AppendUint16(slots, uint16(len(c)))
	}
	b := []byte{byte(kind), 0}
	b = binary.BigEndian.AppendUint16(b, uint16(len(cells)))
	b = binary.BigEndian.AppendUint16(b, uint16(512-len(behind)))
	b = append(b, 0, 0)
	b = binary.BigEndian.AppendUint32(b, uint32(next))
	copy(p[:], append(b, slots...))
	copy(p[512-len(behind):], behind)
	return p
}

// firstPage is a heap's first page.
func firstPage(fresh, free, many, records, root int) api.Page {
	b := []byte("HEAP")
	for _, n := range []int{fresh, free, many, records, root} {
		b = binary.BigEndian.AppendUint32(b, uint32(n))
	}
	return slotted(4, 0, string(b))
}

// littered is a pool of so many pages, each with something that no tree has.
func littered(t *testing.T, pages int) (*disk.Disk, *pool.Pool) {
	t.Helper()
	d, e := disk.New(1 + 400 + 4*pages)
	want(t, "New", e, api.OK)
	want(t, "pool.Format", pool.Format(d, 400), api.OK)
	p, e := pool.Open(d, 400, 5)
	want(t, "pool.Open", e, api.OK)
	for n := range pages {
		x := api.Page(slices.Repeat([]byte{byte(1 + n%250)}, 512))
		want(t, "Put", p.Put(n, x), api.OK)
		if n%50 == 49 || n == pages-1 {
			want(t, "Commit", p.Commit(), api.OK)
		}
	}
	return d, p
}

// pages are all pages of a pool.
func pages(t *testing.T, p *pool.Pool) []api.Page {
	t.Helper()
	var l []api.Page
	for n := range p.Pages() {
		x, e := p.Get(n)
		want(t, "Get of a page", e, api.OK)
		l = append(l, x)
	}
	return l
}

// changed are the pages of a pool that are not so.
func changed(t *testing.T, p *pool.Pool, was []api.Page) (l []int) {
	t.Helper()
	for n, x := range pages(t, p) {
		if x != was[n] {
			l = append(l, n)
		}
	}
	return l
}

// both is a tree, and the plain one.
type both struct {
	t  *testing.T
	d  *disk.Disk
	p  *pool.Pool
	h  *heap.Heap
	o  *tree.Tree
	as *plain
}

// bare is a heap that was just formatted, on so many pages, without a tree.
func bare(t *testing.T, many int) *both {
	t.Helper()
	d, p := littered(t, many)
	v := &both{t: t, d: d, p: p, as: plainOn(pages(t, p))}
	want(t, "heap.Format", heap.Format(p), api.OK)
	h, e := heap.Open(p)
	want(t, "heap.Open", e, api.OK)
	v.h = h
	return v
}

// begun is a tree that was just formatted, on so many pages.
func begun(t *testing.T, many int) *both {
	t.Helper()
	v := bare(t, many)
	v.format()
	v.open()
	return v
}

// of is a tree with these keys, put in their order, each with another value.
func of(t *testing.T, many int, keys ...string) *both {
	t.Helper()
	v := begun(t, many)
	for i, key := range keys {
		v.put(key, i)
	}
	return v
}

// format is Format, of both.
func (v *both) format() {
	v.t.Helper()
	want(v.t, "Format", tree.Format(v.p, v.h), v.as.format())
}

// open opens the tree; it must open.
func (v *both) open() {
	v.t.Helper()
	o, e := tree.Open(v.p, v.h)
	if e != api.OK || o == nil {
		v.t.Fatalf("Open answers %v", e)
	}
	v.o = o
}

// reopen opens the pool of the disk anew, and all that stands in it.
func (v *both) reopen(frames int) {
	v.t.Helper()
	p, e := pool.Open(v.d, 400, frames)
	want(v.t, "pool.Open", e, api.OK)
	h, e := heap.Open(p)
	want(v.t, "heap.Open", e, api.OK)
	v.p, v.h = p, h
	v.open()
}

// value is a place that is made of a number.
func value(i int) api.Place { return api.Place{Page: 7*i + 300, Slot: (i * 259) % 65536} }

// put is Put, of both.
func (v *both) put(key string, i int) api.Errno {
	v.t.Helper()
	e := v.as.put(key, value(i))
	want(v.t, "Put", v.o.Put([]byte(key), value(i)), e)
	return e
}

// drop is Drop, of both.
func (v *both) drop(key string) api.Errno {
	v.t.Helper()
	e := v.as.drop(key)
	want(v.t, "Drop", v.o.Drop([]byte(key)), e)
	return e
}

// give is the heap's Give, of both.
func (v *both) give() int {
	v.t.Helper()
	n, e := v.h.Give()
	want(v.t, "Give's error", e, api.OK)
	want(v.t, "Give", n, v.as.give())
	return n
}

// back is the heap's Back, of both.
func (v *both) back(n int) {
	v.t.Helper()
	v.as.giveBack(n)
	want(v.t, "Back", v.h.Back(n), api.OK)
}

// fill leaves so many pages that can be given out.
func (v *both) fill(room int) {
	v.t.Helper()
	for v.h.Room() > room {
		v.give()
	}
	want(v.t, "Room", v.as.room(), room)
}

// wantPages: is the tree as the plain one, page by page?
func (v *both) wantPages(what string) {
	v.t.Helper()
	is := pages(v.t, v.p)
	for n, x := range v.as.image() {
		if is[n] != x {
			v.t.Errorf("%s: the page %d begins with %v; wanted: %v", what, n, is[n][:24], x[:24])
		}
	}
}

// wantAsPlain: is the tree as the plain one, page by page, and does it tell the same?
func (v *both) wantAsPlain(what string) {
	v.t.Helper()
	v.wantPages(what)
	is := pages(v.t, v.p)
	all := v.as.keys()
	want(v.t, what+": Len", v.o.Len(), len(all))
	want(v.t, what+": Levels", v.o.Levels(), v.as.nodes[v.as.root].level+1)
	l, e := v.o.Check()
	want(v.t, what+": Check's error", e, api.OK)
	wantList(v.t, what+": Check", l, v.as.nodePages()...)
	wantCells(v.t, what+": All", v.o.All(nil, nil), all...)
	for _, c := range all {
		wantGet(v.t, what, v.o, c.key, c.at)
	}
	wantList(v.t, what+": what was looked at changed nothing", changed(v.t, v.p, is))
}

// wantRefused: does what was done (it told this error) leave all as it was?
func (v *both) wantRefused(what string, e, wanted api.Errno) {
	v.t.Helper()
	want(v.t, what, e, wanted)
	v.wantAsPlain(what)
}

// want: is it what was wanted?
func want[T comparable](t *testing.T, what string, is, wanted T) {
	t.Helper()
	if is != wanted {
		t.Errorf("%s: %v; wanted: %v", what, is, wanted)
	}
}

// wantList: are these the numbers?
func wantList(t *testing.T, what string, is []int, wanted ...int) {
	t.Helper()
	if !slices.Equal(is, wanted) {
		t.Errorf("%s: %v; wanted: %v", what, is, wanted)
	}
}

// wantGet: does Get answer this value?
func wantGet(t *testing.T, what string, o *tree.Tree, key string, wanted api.Place) {
	t.Helper()
	at, e := o.Get([]byte(key))
	want(t, what+": Get's error", e, api.OK)
	want(t, what+": Get", at, wanted)
}

// wantNot: does Get answer this error, and no value?
func wantNot(t *testing.T, what string, o *tree.Tree, key string, wanted api.Errno) {
	t.Helper()
	at, e := o.Get([]byte(key))
	want(t, what+": Get's error", e, wanted)
	want(t, what+": Get", at, api.Place{})
}

// wantCells: does it go over just these keys and values?
func wantCells(t *testing.T, what string, all iter.Seq2[[]byte, api.Place], wanted ...plainCell) {
	t.Helper()
	many := 0
	for key, at := range all {
		if many >= len(wanted) {
			t.Errorf("%s: there is one more, %q", what, key)
			return
		}
		want(t, what+": the key", string(key), wanted[many].key)
		want(t, what+": the value", at, wanted[many].at)
		many++
	}
	want(t, what+": how many", many, len(wanted))
}

// wantKeys: does it go over just these keys?
func wantKeys(t *testing.T, what string, all iter.Seq2[[]byte, api.Place], wanted ...string) {
	t.Helper()
	var l []string
	for key := range all {
		l = append(l, string(key))
	}
	if !slices.Equal(l, wanted) {
		t.Errorf("%s: %q; wanted: %q", what, l, wanted)
	}
}

// long is a key of so many bytes, that begins with a text.
func long(text string, many int) string { return text + strings.Repeat("-", many-len(text)) }

// hundreds are keys of 100 bytes that begin with these letters, in their order.
func hundreds(letters string) []string {
	var l []string
	for i := range letters {
		l = append(l, long(letters[i:i+1], 100))
	}
	return l
}

// noKeys are keys that may not be.
func noKeys() []string {
	return []string{"", long("a", 101), long("a", 102), long("a", 256), long("a", 257), long("a", 356), long("a", 400), long("a", 70000)}
}

// noValues are places that no value may be.
func noValues() []api.Place {
	l := []api.Place{}
	for _, n := range []int{math.MinInt, -1 << 32, -1 << 31, -2, -1, 1 << 31, 1<<31 + 1, 1 << 32, 1<<32 + 1, 1 << 62, math.MaxInt} {
		l = append(l, api.Place{Page: n}, api.Place{Page: n, Slot: 1})
	}
	for _, n := range []int{math.MinInt, -65536, -2, -1, 65536, 65537, 1 << 31, 1 << 32, math.MaxInt} {
		l = append(l, api.Place{Slot: n}, api.Place{Page: 1, Slot: n})
	}
	return l
}
