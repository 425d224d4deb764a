package tree_test

import (
	"testing"

	"coupon/api"
	"coupon/disk"
	"coupon/heap"
	"coupon/pool"
	"coupon/tree"
)

// P8.1: Format gives out a page, that is the root: a leaf without keys; nothing else is changed.
func TestFormat(t *testing.T) {
	for _, many := range []int{4, 9, 300} {
		v := bare(t, many)
		was := pages(t, v.p)
		v.format()
		wantList(t, "the pages that are changed", changed(t, v.p, was), 0, 1)
		x, _ := v.p.Get(1)
		want(t, "the root's page", x, slotted(3, 0, "\x00"))
		x, _ = v.p.Get(0)
		want(t, "the first page", x, firstPage(2, 0, 0, 0, 1))
		v.open()
		v.wantAsPlain("formatted")
		want(t, "it is the transaction's: Abort", v.p.Abort(), api.OK)
		_, e := tree.Open(v.p, v.h)
		want(t, "Open, aborted", e, api.ErrBytes)
	}
}

// P8.1: the root's page is the one that the heap gives out next, whatever the heap has.
func TestFormatWhere(t *testing.T) {
	v := bare(t, 12)
	a, b := v.give(), v.give()
	v.back(a)
	v.back(b)
	v.format()
	want(t, "Root", v.h.Root(), b)
	v.open()
	v.put("a", 1)
	v.wantAsPlain("on a page that came back")
	v = bare(t, 12)
	at, e := v.h.Lay([]byte("a record"))
	want(t, "Lay", e, api.OK)
	want(t, "Format beside records", tree.Format(v.p, v.h), api.OK)
	want(t, "Root", v.h.Root(), 2)
	v.open()
	want(t, "Put", v.o.Put([]byte("a"), at), api.OK)
	wantGet(t, "beside records", v.o, "a", at)
	r, e := v.h.Get(at)
	want(t, "the record's error", e, api.OK)
	want(t, "the record", string(r), "a record")
}

// P8.1: Format where a root is there, is ErrBytes, whatever that is; where no page is left, it is ErrFull. Nothing is changed.
func TestFormatErrors(t *testing.T) {
	v := begun(t, 9)
	v.put("a", 1)
	v.wantRefused("Format, twice", tree.Format(v.p, v.h), api.ErrBytes)
	v.fill(0)
	v.wantRefused("Format, twice, of no room", tree.Format(v.p, v.h), api.ErrBytes)
	for _, root := range []int{1, 5, 8} {
		v = bare(t, 9)
		want(t, "SetRoot", v.h.SetRoot(root), api.OK)
		was := pages(t, v.p)
		want(t, "Format where a root is there, that is no node", tree.Format(v.p, v.h), api.ErrBytes)
		wantList(t, "nothing is changed", changed(t, v.p, was))
	}
	v = bare(t, 9)
	v.fill(0)
	want(t, "Format of no room", tree.Format(v.p, v.h), api.ErrFull)
	v.wantPages("Format of no room")
	v.back(4)
	v.format()
	v.open()
	v.wantAsPlain("Format of room for one")
}

// P8.1: what the heap refuses as ErrBytes, Format and Open do; nothing is changed.
func TestFormatBroken(t *testing.T) {
	v := bare(t, 9)
	v.back(v.give())
	want(t, "Put", v.p.Put(1, slotted(1, 0, "x")), api.OK)
	was := pages(t, v.p)
	want(t, "Format where what came back is another page", tree.Format(v.p, v.h), api.ErrBytes)
	wantList(t, "nothing is changed", changed(t, v.p, was))
	for what, x := range map[string]api.Page{
		"noughts":         {},
		"a node":          slotted(3, 0, "\x00"),
		"a bad number":    firstPage(10, 0, 0, 0, 1),
		"another mark":    slotted(4, 0, "HEAQ\x00\x00\x00\x02\x00\x00\x00\x00\x00\x00\x00\x00\x00\x00\x00\x00\x00\x00\x00\x01"),
		"a root too many": firstPage(2, 0, 0, 0, 9),
	} {
		v = begun(t, 9)
		want(t, "Put", v.p.Put(0, x), api.OK)
		was := pages(t, v.p)
		want(t, what+": Format", tree.Format(v.p, v.h), api.ErrBytes)
		o, e := tree.Open(v.p, v.h)
		want(t, what+": Open's error", e, api.ErrBytes)
		want(t, what+": there is no tree", o == nil, true)
		wantAll(t, what, v.o, api.ErrBytes)
		wantList(t, what+": nothing is changed", changed(t, v.p, was))
	}
}

// P8.1: Open is the tree as it stands in the transaction; several are the same one.
func TestOpen(t *testing.T) {
	v := begun(t, 30)
	other := v.o
	v.put("a", 1)
	v.open()
	v.put("b", 2)
	v.o = other
	v.wantAsPlain("of the one")
	want(t, "Commit", v.p.Commit(), api.OK)
	kept := v.as.copied()
	for i, key := range hundreds("cdefghijk") {
		v.put(key, i)
	}
	v.drop("a")
	v.open()
	v.wantAsPlain("in the transaction")
	want(t, "Abort", v.p.Abort(), api.OK)
	v.as = kept
	v.wantAsPlain("aborted")
	v.o = other
	v.wantAsPlain("aborted, of the one")
	want(t, "Crash", v.d.Crash(nil), api.OK)
	v.reopen(2)
	v.wantAsPlain("of a pool that was opened again")
}

// P8.1: Open without a root, or of one that is no node that the heap gave out, is ErrBytes.
func TestOpenErrors(t *testing.T) {
	v := bare(t, 9)
	o, e := tree.Open(v.p, v.h)
	want(t, "Open without a root", e, api.ErrBytes)
	want(t, "there is no tree", o == nil, true)
	for what, f := range map[string]func(v *both){
		"none any more":              func(v *both) { v.h.SetRoot(0) },
		"a page that was never used": func(v *both) { v.h.SetRoot(5) },
		"one that came back":         func(v *both) { v.h.Back(1) },
		"one that is others'":        func(v *both) { n, _ := v.h.Give(); v.h.SetRoot(n) },
		"one of records":             func(v *both) { at, _ := v.h.Lay([]byte("x")); v.h.SetRoot(at.Page) },
		"a node of a heap before": func(v *both) {
			heap.Format(v.p)
			v.h.SetRoot(1)
		},
	} {
		v := begun(t, 9)
		f(v)
		was := pages(t, v.p)
		o, e := tree.Open(v.p, v.h)
		want(t, what+": Open's error", e, api.ErrBytes)
		want(t, what+": there is no tree", o == nil, true)
		_, e = v.o.Check()
		want(t, what+": Check", e, api.ErrBytes)
		wantList(t, what+": nothing is changed", changed(t, v.p, was))
	}
}

// P8.1, P0.6: the heap must be the pool's: that of another one is ErrArg, and nothing is changed.
func TestOtherHeap(t *testing.T) {
	v, w := begun(t, 9), bare(t, 30)
	was, other := pages(t, v.p), pages(t, w.p)
	for _, h := range []*heap.Heap{v.h, w.h} {
		p := v.p
		if h == v.h {
			p = w.p
		}
		want(t, "Format on another pool", tree.Format(p, h), api.ErrArg)
		o, e := tree.Open(p, h)
		want(t, "Open on another pool", e, api.ErrArg)
		want(t, "there is no tree", o == nil, true)
	}
	wantList(t, "nothing is changed", changed(t, v.p, was))
	wantList(t, "nothing is changed of the other one", changed(t, w.p, other))
	h, e := heap.Open(v.p)
	want(t, "heap.Open", e, api.OK)
	_, e = tree.Open(v.p, h)
	want(t, "Open of the same heap, opened again", e, api.OK)
}

// wantAll: do all calls of a tree tell this error, and nothing beside it? What may not be is told ahead of ErrBytes.
func wantAll(t *testing.T, what string, o *tree.Tree, wanted api.Errno) {
	t.Helper()
	bad := wanted
	if wanted == api.ErrBytes {
		bad = api.ErrArg
	}
	for _, key := range []string{"a", "b", long("a", 100)} {
		wantNot(t, what, o, key, wanted)
		want(t, what+": Put", o.Put([]byte(key), value(1)), wanted)
		want(t, what+": Put of no value", o.Put([]byte(key), api.Place{Page: -1}), bad)
		want(t, what+": Drop", o.Drop([]byte(key)), wanted)
	}
	for _, key := range noKeys() {
		wantNot(t, what+", no key", o, key, bad)
		want(t, what+": Put of no key", o.Put([]byte(key), value(1)), bad)
		want(t, what+": Drop of no key", o.Drop([]byte(key)), bad)
	}
	wantCells(t, what+": All", o.All(nil, nil))
	wantCells(t, what+": All of some", o.All([]byte("a"), []byte("b")))
	want(t, what+": Len", o.Len(), 0)
	want(t, what+": Levels", o.Levels(), 0)
	l, e := o.Check()
	want(t, what+": Check's error", e, wanted)
	want(t, what+": Check", l == nil, true)
}

// P8.1 to P8.3, P0.6: a tree that is not there is ErrNil, ahead of all; so is a pool, and a heap.
func TestNone(t *testing.T) {
	for _, o := range []*tree.Tree{nil, {}} {
		wantAll(t, "no tree", o, api.ErrNil)
	}
	v, dead := bare(t, 9), begun(t, 9)
	kill(t, dead.d)
	was := pages(t, v.p)
	pools, heaps := []*pool.Pool{nil, {}, v.p, dead.p}, []*heap.Heap{nil, {}, v.h, dead.h}
	for i, p := range pools {
		for j, h := range heaps {
			if i >= 2 && j >= 2 {
				continue
			}
			want(t, "Format of no pool, or no heap", tree.Format(p, h), api.ErrNil)
			o, e := tree.Open(p, h)
			want(t, "Open of no pool, or no heap", e, api.ErrNil)
			want(t, "there is no tree", o == nil, true)
		}
	}
	wantList(t, "nothing is changed", changed(t, v.p, was))
}

// P8.1 to P8.3: on a dead pool all is ErrDead, ahead of all but ErrNil.
func TestDead(t *testing.T) {
	v := of(t, 30, "a", "b", "c")
	all := v.o.All(nil, nil)
	kill(t, v.d)
	wantAll(t, "a dead pool", v.o, api.ErrDead)
	want(t, "Format of a dead pool", tree.Format(v.p, v.h), api.ErrDead)
	o, e := tree.Open(v.p, v.h)
	want(t, "Open of a dead pool", e, api.ErrDead)
	want(t, "there is no tree", o == nil, true)
	wantKeys(t, "All that was called before", all, "a", "b", "c")
	v = bare(t, 9)
	kill(t, v.d)
	want(t, "Format of a dead pool without a root", tree.Format(v.p, v.h), api.ErrDead)
}

// kill makes a disk die.
func kill(t *testing.T, d *disk.Disk) {
	t.Helper()
	want(t, "Fuse", d.Fuse(0), api.OK)
	want(t, "a step", d.Flush(), api.ErrDead)
}
