package store_test

import (
	"iter"
	"maps"
	"math"
	"slices"
	"strings"
	"testing"

	"coupon/api"
	"coupon/disk"
	"coupon/heap"
	"coupon/pool"
	"coupon/store"
)

// plain is what a store has: its records, by their keys.
type plain map[string]string

// within are its keys from one on, below another one, rising.
func (x plain) within(from, below string) []string {
	var l []string
	for _, key := range slices.Sorted(maps.Keys(x)) {
		if key >= from && (below == "" || key < below) {
			l = append(l, key)
		}
	}
	return l
}

// both is a store, and what it should have: as of the last commit, and in the transaction.
type both struct {
	t               *testing.T
	d               *disk.Disk
	sectors, frames int
	s               *store.Store
	was, is         plain
}

// littered is a disk of so many pages behind a log of so many sectors; each sector has something that no store has.
func littered(t *testing.T, sectors, pages int) *disk.Disk {
	t.Helper()
	d, e := disk.New(1 + sectors + 4*pages)
	want(t, "New", e, api.OK)
	for i := range d.Sectors() {
		want(t, "Write", d.Write(i, api.Sector(slices.Repeat([]byte{byte(1 + i%250)}, 128))), api.OK)
	}
	want(t, "Flush", d.Flush(), api.OK)
	return d
}

// begun is a store that was just formatted, on so many pages behind a log of so many sectors.
func begun(t *testing.T, sectors, pages int) *both {
	t.Helper()
	v := &both{t: t, d: littered(t, sectors, pages), sectors: sectors, frames: 5, was: plain{}, is: plain{}}
	want(t, "Format", store.Format(v.d, sectors), api.OK)
	v.open()
	return v
}

// of is a store of these keys, put in their order, with records of 3 to some hundred bytes, committed.
func of(t *testing.T, pages int, keys ...string) *both {
	t.Helper()
	v := begun(t, 400, pages)
	for i, key := range keys {
		want(t, "Put", v.put(key, some(3+150*i%700, i)), api.OK)
		v.commit()
	}
	return v
}

// open opens the disk's store, that must open; it has what was committed.
func (v *both) open() {
	v.t.Helper()
	s, e := store.Open(v.d, v.sectors, v.frames)
	if e != api.OK || s == nil {
		v.t.Fatalf("Open answers %v", e)
	}
	v.s, v.is = s, maps.Clone(v.was)
}

// put is Put, of both; one that is refused must change nothing.
func (v *both) put(key, record string) api.Errno {
	v.t.Helper()
	was := pages(v.t, v.s)
	e := v.s.Put([]byte(key), []byte(record))
	if e == api.OK {
		v.is[key] = record
	} else {
		wantList(v.t, "what a refused Put changed", changed(v.t, v.s, was))
	}
	return e
}

// drop is Drop, of both; one that is refused must change nothing.
func (v *both) drop(key string) api.Errno {
	v.t.Helper()
	was := pages(v.t, v.s)
	e := v.s.Drop([]byte(key))
	_, is := v.is[key]
	want(v.t, "Drop", e == api.OK, is)
	if e == api.OK {
		delete(v.is, key)
	} else {
		wantList(v.t, "what a refused Drop changed", changed(v.t, v.s, was))
	}
	return e
}

// commit is Commit, of both.
func (v *both) commit() {
	v.t.Helper()
	want(v.t, "Commit", v.s.Commit(), api.OK)
	v.was = maps.Clone(v.is)
}

// abort is Abort, of both.
func (v *both) abort() {
	v.t.Helper()
	want(v.t, "Abort", v.s.Abort(), api.OK)
	v.is = maps.Clone(v.was)
}

// pages are all pages of a store, as they are in its transaction.
func pages(t *testing.T, s *store.Store) []api.Page {
	t.Helper()
	p, _, _ := s.Parts()
	var l []api.Page
	for n := range p.Pages() {
		x, e := p.Get(n)
		want(t, "Get of a page", e, api.OK)
		l = append(l, x)
	}
	return l
}

// changed are the pages of a store that are not so.
func changed(t *testing.T, s *store.Store, was []api.Page) (l []int) {
	t.Helper()
	for n, x := range pages(t, s) {
		if x != was[n] {
			l = append(l, n)
		}
	}
	return l
}

// wantAsPlain: is the store sound, and does it tell what it should have, and nothing else?
func (v *both) wantAsPlain(what string) {
	v.t.Helper()
	was := pages(v.t, v.s)
	wantStore(v.t, what, v.s, v.is)
	p, h, _ := v.s.Parts()
	want(v.t, what+": Changed", v.s.Changed(), len(p.Changed()))
	free := len(slices.DeleteFunc(h.Uses(), func(use int) bool { return use != 0 }))
	want(v.t, what+": Room", v.s.Room(), free)
	want(v.t, what+": Dead", v.s.Dead(), false)
	wantList(v.t, what+": what was looked at changed nothing", changed(v.t, v.s, was))
}

// wantStore: is a store sound, and does it have just these records?
func wantStore(t *testing.T, what string, s *store.Store, x plain) {
	t.Helper()
	want(t, what+": Check", s.Check(), api.OK)
	want(t, what+": Len", s.Len(), len(x))
	wantPairs(t, what+": All", s.All(nil, nil), x, "", "")
	for key, record := range x {
		wantGet(t, what, s, key, record)
		for _, other := range []string{key + "\x00", key[:len(key)-1] + "\x00\xff"} {
			if _, is := x[other]; !is && len(other) <= 100 {
				wantNot(t, what+": another key", s, other, api.ErrNone)
			}
		}
	}
}

// want: is it what was wanted?
func want[T comparable](t *testing.T, what string, is, wanted T) {
	t.Helper()
	if is != wanted {
		t.Errorf("%s: %v; wanted: %v", what, is, wanted)
	}
}

// wantList: are these the numbers?
func wantList(t *testing.T, what string, is []int, wanted ...int) {
	t.Helper()
	if !slices.Equal(is, wanted) {
		t.Errorf("%s: %v; wanted: %v", what, is, wanted)
	}
}

// wantGet: does Get answer this record?
func wantGet(t *testing.T, what string, s *store.Store, key, wanted string) {
	t.Helper()
	b, e := s.Get([]byte(key))
	want(t, what+": Get's error", e, api.OK)
	wantRecord(t, what+": Get of "+key, b, wanted)
}

// wantRecord: is it this record?
func wantRecord(t *testing.T, what string, is []byte, wanted string) {
	t.Helper()
	if string(is) != wanted {
		t.Errorf("%s: %d bytes, %.20q; wanted: %d, %.20q", what, len(is), is, len(wanted), wanted)
	}
}

// wantNot: does Get answer this error, and no record?
func wantNot(t *testing.T, what string, s *store.Store, key string, wanted api.Errno) {
	t.Helper()
	b, e := s.Get([]byte(key))
	want(t, what+": Get's error", e, wanted)
	want(t, what+": Get is nothing", b == nil, true)
}

// wantPairs: does it go over just the keys from one on, below another one, each with its record?
func wantPairs(t *testing.T, what string, all iter.Seq2[[]byte, []byte], x plain, from, below string) {
	t.Helper()
	wanted := x.within(from, below)
	many := 0
	for key, record := range all {
		if many >= len(wanted) {
			t.Errorf("%s: there is one more, %q", what, key)
			return
		}
		want(t, what+": the key", string(key), wanted[many])
		wantRecord(t, what+": the record", record, x[wanted[many]])
		many++
	}
	want(t, what+": how many", many, len(wanted))
}

// wantUnchanged: is a disk as its copy was, read and lasting, with the same sectors open?
func wantUnchanged(t *testing.T, what string, d, was *disk.Disk) {
	t.Helper()
	want(t, what+": the disk is unchanged", d.Same(was), true)
	wantList(t, what+": its open sectors", d.Open(), was.Open()...)
	want(t, what+": it is as dead as it was", d.Dead(), was.Dead())
}

// some is a record of so many bytes, made of a number.
func some(long, x int) string {
	b := make([]byte, long)
	for i := range b {
		b[i] = byte(x + i*i%251 + i/400)
	}
	return string(b)
}

// long is a key of so many bytes, that begins with a text.
func long(text string, many int) string { return text + strings.Repeat("-", many-len(text)) }

// hundreds are keys of 100 bytes that begin with these letters, in their order.
func hundreds(letters string) []string {
	var l []string
	for i := range letters {
		l = append(l, long(letters[i:i+1], 100))
	}
	return l
}

// noKeys are keys that may not be.
func noKeys() []string {
	return []string{"", long("a", 101), long("a", 102), long("a", 256), long("a", 356), long("a", 70000)}
}

// noFrames are numbers of frames that may not be.
func noFrames() []int { return []int{math.MinInt, -5, -1, 0, 1, 101, 102, 1 << 32, math.MaxInt} }

// noSectors are numbers of a log's sectors that may not be.
func noSectors() []int {
	return []int{math.MinInt, -1, 0, 1, 3, 4001, 5000, 1<<32 + 30, 1 << 62, math.MaxInt}
}

// kill makes a disk die.
func kill(t *testing.T, d *disk.Disk) {
	t.Helper()
	want(t, "Fuse", d.Fuse(0), api.OK)
	want(t, "a step", d.Flush(), api.ErrDead)
}

// under are the pool and the heap that stand on a disk, opened apart of any store.
func under(t *testing.T, d *disk.Disk, sectors int) (*pool.Pool, *heap.Heap) {
	t.Helper()
	p, e := pool.Open(d, sectors, 5)
	want(t, "pool.Open", e, api.OK)
	h, e := heap.Open(p)
	want(t, "heap.Open", e, api.OK)
	return p, h
}
