package store_test

import (
	"maps"
	"slices"
	"testing"

	"coupon/api"
	"coupon/heap"
	"coupon/page"
	"coupon/pool"
	"coupon/store"
	"coupon/tree"
)

// sound is a store that has some of all, on 20 pages: the leaf 1; the pages 6 (d) and 2 (a, b, c) of records, in that order; b's parts 5, 4 and 3; 7 and 8 came back, in that order; fresh is 9. It is committed.
func sound(t *testing.T) *both {
	t.Helper()
	v := begun(t, 400, 20)
	v.put("a", "one")
	v.put("b", some(1000, 1))
	v.put("c", some(300, 2))
	v.put("d", some(399, 3))
	v.put("e", some(800, 4))
	want(t, "Drop", v.drop("e"), api.OK)
	v.commit()
	_, h, _ := v.s.Parts()
	wantList(t, "what is what", h.Uses(), 4, 3, 1, 2, 2, 2, 1, 0, 0, 0, 0, 0, 0, 0, 0, 0, 0, 0, 0, 0)
	return v
}

// parts are what a store stands on.
type parts struct {
	p *pool.Pool
	h *heap.Heap
	o *tree.Tree
}

// partsOf are a store's.
func partsOf(s *store.Store) parts {
	p, h, o := s.Parts()
	return parts{p, h, o}
}

// at is a key's place.
func (x parts) at(key string) api.Place {
	at, _ := x.o.Get([]byte(key))
	return at
}

// key gives a key a place.
func (x parts) key(key string, at api.Place) { x.o.Put([]byte(key), at) }

// put puts another page there.
func (x parts) put(n int, p api.Page) { x.p.Put(n, p) }

// edit puts a page there that is made of the one that there is.
func (x parts) edit(n int, f func(p api.Page) (api.Page, api.Errno)) {
	p, _ := x.p.Get(n)
	p, _ = f(p)
	x.put(n, p)
}

// bare is a page of a kind, without slots.
func bare(kind int) api.Page {
	x, _ := page.New(kind)
	return x
}

// noise is a page that may not be.
func noise() api.Page { return api.Page(slices.Repeat([]byte{byte(9)}, 512)) }

// unsounds are ways in which the sound store is not sound any more.
func unsounds() map[string]func(x parts) {
	l := map[string]func(x parts){
		"a record that no key has":          func(x parts) { x.h.Lay([]byte("x")) },
		"a long one that no key has":        func(x parts) { x.h.Lay(make([]byte, 900)) },
		"a page that is no node":            func(x parts) { x.h.Give() },
		"two pages that are no nodes":       func(x parts) { x.h.Give(); x.h.Give() },
		"a record that two keys have":       func(x parts) { x.key("e", x.at("a")) },
		"a long one that two keys have":     func(x parts) { x.key("0", x.at("b")) },
		"one key has another one's record":  func(x parts) { x.key("a", x.at("c")) },
		"a key that was dropped alone":      func(x parts) { x.o.Drop([]byte("a")) },
		"the key of a long one that was":    func(x parts) { x.o.Drop([]byte("b")) },
		"a record that was taken out alone": func(x parts) { x.h.Take(x.at("a")) },
		"a long one that was":               func(x parts) { x.h.Take(x.at("b")) },
		"a page of one that was":            func(x parts) { x.h.Take(x.at("d")) },
		"no root":                           func(x parts) { x.h.SetRoot(0) },
		"a root that is no node":            func(x parts) { x.h.SetRoot(2) },
		"a root that was never used":        func(x parts) { x.h.SetRoot(19) },
		"another tree":                      func(x parts) { n, _ := x.h.Give(); x.h.SetRoot(n); p, _ := x.p.Get(1); x.put(n, p) },
		"an empty tree":                     func(x parts) { x.h.SetRoot(0); tree.Format(x.p, x.h) },
		"no heap":                           func(x parts) { x.put(0, api.Page{}) },
		"a heap anew":                       func(x parts) { heap.Format(x.p) },
		"the heap's page is another one":    func(x parts) { x.put(0, noise()) },
		"a node of noughts":                 func(x parts) { x.put(1, api.Page{}) },
		"a node that is none":               func(x parts) { x.put(1, bare(3)) },
		"a node that came back":             func(x parts) { x.h.Back(1) },
		"a node with a next one":            func(x parts) { x.edit(1, func(p api.Page) (api.Page, api.Errno) { return page.Link(p, 2) }) },
		"a page of records of noughts":      func(x parts) { x.put(2, api.Page{}) },
		"a page of records of another kind": func(x parts) { x.put(2, bare(3)) },
		"one that has lost a record":        func(x parts) { x.edit(2, func(p api.Page) (api.Page, api.Errno) { return page.Take(p, 2) }) },
		"one that has one more":             func(x parts) { x.edit(2, addCell) },
		"one whose cell is none":            func(x parts) { x.edit(2, func(p api.Page) (api.Page, api.Errno) { return page.Put(p, 0, []byte{7}) }) },
		"one that has no next":              func(x parts) { x.edit(6, func(p api.Page) (api.Page, api.Errno) { return page.Link(p, 0) }) },
		"one that has itself as next":       func(x parts) { x.edit(2, func(p api.Page) (api.Page, api.Errno) { return page.Link(p, 2) }) },
		"a part of noughts":                 func(x parts) { x.put(4, api.Page{}) },
		"a part that is none":               func(x parts) { x.put(3, noise()) },
		"a part of another length": func(x parts) {
			x.edit(3, func(p api.Page) (api.Page, api.Errno) { return page.Put(p, 0, []byte("x")) })
		},
		"a page that came back is a node":    func(x parts) { x.put(7, bare(3)) },
		"a page that came back is of others": func(x parts) { x.put(8, bare(2)) },
	}
	for what, at := range map[string]api.Place{"an empty slot": {Page: 2, Slot: 3}, "the greatest slot": {Page: 2, Slot: 65535}, "a node": {Page: 1}, "a part": {Page: 4}, "the first page": {}, "one that came back": {Page: 7}, "one that was never used": {Page: 12}, "one that there is not": {Page: 20}, "the greatest page": {Page: 1<<31 - 1, Slot: 1}} {
		l["a key of no record: "+what] = func(x parts) { x.key("e", at) }
		l["a key that has lost its record: "+what] = func(x parts) { x.key("a", at) }
		l["a record that lost its key: "+what] = func(x parts) { x.h.Take(x.at("a")); x.key("a", at) }
	}
	return l
}

// addCell adds a short record's cell.
func addCell(p api.Page) (api.Page, api.Errno) {
	p, _, e := page.Lay(p, []byte("\x00x"))
	return p, e
}

// P9.1, P9.3: a store that is not sound is ErrBytes to Check, in the transaction, and to Open, committed; neither changes anything.
func TestUnsound(t *testing.T) {
	l := unsounds()
	for _, what := range slices.Sorted(maps.Keys(l)) {
		v := sound(t)
		l[what](partsOf(v.s))
		was := pages(t, v.s)
		want(t, what+": Check", v.s.Check(), api.ErrBytes)
		wantList(t, what+": what Check changed", changed(t, v.s, was))
		want(t, what+": Abort", v.s.Abort(), api.OK)
		v.wantAsPlain(what + ", aborted")
		l[what](partsOf(v.s))
		want(t, what+": Commit", v.s.Commit(), api.OK)
		wantNoStore(t, what, v.d, v.sectors, v.frames, api.ErrBytes)
		want(t, what+": Check, committed", v.s.Check(), api.ErrBytes)
		want(t, what+": Checkpoint", v.s.Checkpoint(), api.OK)
		wantNoStore(t, what+", written", v.d, v.sectors, v.frames, api.ErrBytes)
	}
}

// P9.1, P9.3: a store without keys is not sound, if its heap has a page that is not what it should be.
func TestUnsoundEmpty(t *testing.T) {
	for what, f := range map[string]func(x parts){
		"a record":                        func(x parts) { x.h.Lay([]byte("x")) },
		"a page of records of noughts":    func(x parts) { at, _ := x.h.Lay([]byte("x")); x.put(at.Page, api.Page{}) },
		"a page of records that is none":  func(x parts) { at, _ := x.h.Lay([]byte("x")); x.put(at.Page, noise()) },
		"one without records":             func(x parts) { at, _ := x.h.Lay([]byte("x")); x.put(at.Page, bare(1)) },
		"a record whose parts are none":   func(x parts) { at, _ := x.h.Lay(make([]byte, 400)); x.put(at.Page-1, bare(0)) },
		"a node that is none":             func(x parts) { x.put(1, bare(3)) },
		"a page that came back is a node": func(x parts) { n, _ := x.h.Give(); x.h.Back(n); x.put(n, bare(3)) },
		"one that came back is a part":    func(x parts) { n, _ := x.h.Give(); x.h.Back(n); x.put(n, bare(2)) },
		"one that came back is a record's": func(x parts) {
			n, _ := x.h.Give()
			x.h.Back(n)
			x.put(n, bare(1))
		},
		"one that came back is a first one": func(x parts) { n, _ := x.h.Give(); x.h.Back(n); x.put(n, bare(4)) },
	} {
		v := begun(t, 400, 9)
		x := partsOf(v.s)
		f(x)
		want(t, what+": Check", v.s.Check(), api.ErrBytes)
		want(t, what+": Commit", v.s.Commit(), api.OK)
		wantNoStore(t, what, v.d, v.sectors, v.frames, api.ErrBytes)
	}
}

// P9.3: what the heap and the tree may do, and stay sound.
func TestSound(t *testing.T) {
	for what, f := range map[string]func(x parts){
		"nothing":                          func(x parts) {},
		"a page that was given, and back":  func(x parts) { n, _ := x.h.Give(); x.h.Back(n) },
		"two keys have each other's":       func(x parts) { a, c := x.at("a"), x.at("c"); x.key("a", c); x.key("c", a) },
		"a record, with a key":             func(x parts) { at, _ := x.h.Lay([]byte("x")); x.key("e", at) },
		"a long record, with a key":        func(x parts) { at, _ := x.h.Lay(make([]byte, 1200)); x.key("e", at) },
		"a key, and its record, are gone":  func(x parts) { x.h.Take(x.at("b")); x.o.Drop([]byte("b")) },
		"a page of records is gone":        func(x parts) { x.h.Take(x.at("d")); x.o.Drop([]byte("d")) },
		"another record":                   func(x parts) { at, _ := x.h.Put(x.at("b"), []byte("x")); x.key("b", at) },
		"a page that was never used is so": func(x parts) { x.put(15, noise()) },
		"many nodes": func(x parts) {
			for _, key := range hundreds("ABCDEFGHIJ") {
				at, _ := x.h.Lay([]byte(key[:20]))
				x.key(key, at)
			}
		},
	} {
		v := sound(t)
		f(partsOf(v.s))
		want(t, what+": Check", v.s.Check(), api.OK)
		want(t, what+": Commit", v.s.Commit(), api.OK)
		s, e := store.Open(v.d, v.sectors, 3)
		want(t, what+": Open", e, api.OK)
		want(t, what+": Check, opened", s.Check(), api.OK)
	}
}
