package store_test

import (
	"slices"
	"testing"

	"coupon/api"
	"coupon/page"
)

// call is one that tells an error, and whether there is nothing beside it.
type call func() (bool, api.Errno)

// calls are some of all calls of the sound store, by what they are.
func calls(v *both) map[string]call {
	bare := func(e api.Errno) (bool, api.Errno) { return true, e }
	l := map[string]call{
		"put new":   func() (bool, api.Errno) { return bare(v.s.Put([]byte("e"), []byte("x"))) },
		"put pages": func() (bool, api.Errno) { return bare(v.s.Put([]byte("e"), make([]byte, 1200))) },
		"check":     func() (bool, api.Errno) { return bare(v.s.Check()) },
		"all":       goneOver(v, "", ""),
		"len": func() (bool, api.Errno) {
			if v.s.Len() == 0 {
				return true, api.ErrBytes
			}
			return true, api.OK
		},
	}
	for _, key := range []string{"a", "b", "c", "d"} {
		l["get "+key] = func() (bool, api.Errno) {
			b, e := v.s.Get([]byte(key))
			return b == nil, e
		}
		l["put "+key] = func() (bool, api.Errno) { return bare(v.s.Put([]byte(key), []byte("other"))) }
		l["drop "+key] = func() (bool, api.Errno) { return bare(v.s.Drop([]byte(key))) }
		l["all "+key] = goneOver(v, key, key+"\x00")
	}
	return l
}

// goneOver is All, of which nothing tells ErrBytes.
func goneOver(v *both, from, below string) call {
	return func() (bool, api.Errno) {
		for range v.s.All([]byte(from), []byte(below)) {
			return true, api.OK
		}
		return true, api.ErrBytes
	}
}

// wantMet: where the sound store is broken so, do just these calls tell ErrBytes, with nothing beside it, and nothing changed? Something stands in the transaction, too, and stays there.
func wantMet(t *testing.T, what string, f func(x parts), met ...string) {
	t.Helper()
	v := sound(t)
	for name := range calls(v) {
		want(t, "Put", v.put("c", some(290, 5)), api.OK)
		f(partsOf(v.s))
		was := pages(t, v.s)
		wanted := api.OK
		if slices.Contains(met, name) {
			wanted = api.ErrBytes
		}
		zero, e := calls(v)[name]()
		want(t, what+": "+name, e, wanted)
		if e != api.OK {
			want(t, what+": "+name+": nothing beside the error", zero, true)
			wantList(t, what+": "+name+": nothing is changed", changed(t, v.s, was))
		}
		want(t, what+": "+name+": a long record", v.s.Put([]byte("a"), make([]byte, 20001)), api.ErrLong)
		wantNot(t, what+": "+name+": no key", v.s, "", api.ErrArg)
		v.abort()
	}
	v.wantAsPlain(what + ", aborted")
}

// all are the calls that have to do with these keys.
func all(keys ...string) []string {
	l := []string{"all", "check"}
	for _, key := range keys {
		l = append(l, "get "+key, "put "+key, "drop "+key, "all "+key)
	}
	return l
}

// P9.2: a key whose record is not there is ErrBytes to those calls that look for it: ErrNone is told of keys alone.
func TestMetPlace(t *testing.T) {
	for what, at := range map[string]api.Place{"an empty slot": {Page: 2, Slot: 3}, "a node": {Page: 1}, "a part": {Page: 4}, "the first page": {}, "one that came back": {Page: 7}, "one that was never used": {Page: 12}, "the greatest page": {Page: 1<<31 - 1, Slot: 1}} {
		wantMet(t, "a place: "+what, func(x parts) { x.key("a", at) }, all("a")...)
		wantMet(t, "a place of b: "+what, func(x parts) { x.key("b", at) }, all("b")...)
	}
}

// P9.2: so is a page that is not what it should be, to those that meet it.
func TestMetPage(t *testing.T) {
	everything := append(all("a", "b", "c", "d"), "put new", "put pages", "len")
	link := func(n, next int) func(x parts) {
		return func(x parts) { x.edit(n, func(p api.Page) (api.Page, api.Errno) { return page.Link(p, next) }) }
	}
	wantMet(t, "no heap", func(x parts) { x.put(0, noise()) }, everything...)
	wantMet(t, "no root", func(x parts) { x.h.SetRoot(0) }, everything...)
	wantMet(t, "a leaf that is none", func(x parts) { x.put(1, noise()) }, everything...)
	wantMet(t, "a part that is none", func(x parts) { x.put(4, noise()) }, all("b")...)
	wantMet(t, "parts that come round", link(4, 4), all("b")...)
	wantMet(t, "a page of records that is none", func(x parts) { x.put(2, noise()) }, all("a", "b", "c")...)
	wantMet(t, "a page of records without its next", link(6, 9), "put new", "put pages", "drop d", "check")
	wantMet(t, "a page that came back, and is none", func(x parts) { x.put(8, noise()) }, "put pages")
	wantMet(t, "one that came back, and is a node", func(x parts) { x.put(8, bare(3)) }, "put pages", "check")
}

// P9.2: what fails half done is undone, and what the transaction changed stays changed: the record was laid, and no page is left to split the leaf.
func TestPutHalfDone(t *testing.T) {
	v := begun(t, 400, 30)
	for _, key := range hundreds("abcd") {
		v.put(key, "x")
	}
	v.put("0", some(1000, 1))
	v.drop("0")
	v.commit()
	x := partsOf(v.s)
	wantList(t, "what came back", x.h.Uses()[:7], 4, 3, 1, 0, 0, 0, 0)
	v.put(long("a", 100), "in the transaction")
	x.put(4, noise())
	want(t, "Put where one that came back is none", v.put(long("e", 100), "y"), api.ErrBytes)
	wantGet(t, "in the transaction", v.s, long("a", 100), "in the transaction")
	want(t, "Changed", v.s.Changed(), 2)
	x.put(4, bare(0))
	x.edit(4, func(p api.Page) (api.Page, api.Errno) { return page.Link(p, 5) })
	want(t, "Put where it is mended", v.put(long("e", 100), "y"), api.OK)
	v.wantAsPlain("mended")
}

// P9.2: the record was taken out, and the leaf beside its key's can't be the root.
func TestDropHalfDone(t *testing.T) {
	v := begun(t, 400, 30)
	for i, key := range hundreds("abcde") {
		v.put(key, some(200*i, i))
	}
	v.commit()
	x := partsOf(v.s)
	want(t, "the levels", x.o.Levels(), 2)
	n := slices.Max(nodes(x))
	right, _ := x.p.Get(n - 1)
	want(t, "Drop", v.drop(long("a", 100)), api.OK)
	x.put(n-1, noise())
	was := pages(t, v.s)
	want(t, "Drop where the leaf beside it is none", v.s.Drop([]byte(long("b", 100))), api.ErrBytes)
	wantList(t, "nothing is changed", changed(t, v.s, was))
	wantGet(t, "what was to be dropped", v.s, long("b", 100), some(200, 1))
	x.put(n-1, right)
	v.wantAsPlain("mended")
	want(t, "Drop where it is mended", v.drop(long("b", 100)), api.OK)
	v.wantAsPlain("mended, and dropped")
	want(t, "the levels", x.o.Levels(), 1)
}

// nodes are the pages of the tree's nodes.
func nodes(x parts) []int {
	l, _ := x.o.Check()
	return l
}
