package store_test

import (
	"encoding/binary"
	"testing"

	"coupon/api"
	"coupon/disk"
	"coupon/heap"
	"coupon/pool"
	"coupon/store"
	"coupon/tree"
)

// P9.1: Format begins an empty store, whatever stood on the disk, and it lasts.
func TestFormat(t *testing.T) {
	for _, x := range [][2]int{{11, 4}, {12, 5}, {100, 40}, {323, 1000}, {4000, 300}} {
		v := begun(t, x[0], x[1])
		v.wantAsPlain("formatted")
		want(t, "Room", v.s.Room(), x[1]-2)
		want(t, "Changed", v.s.Changed(), 0)
		d := littered(t, x[0], x[1])
		want(t, "Format", store.Format(d, x[0]), api.OK)
		wantList(t, "what is open behind Format", d.Open())
		kill(t, d)
		want(t, "Crash", d.Crash([]int{1, 2, 3, 1}), api.OK)
		v.d = d
		v.open()
		v.wantAsPlain("formatted, behind a loss of power")
	}
}

// P9.1: Format where a store stands already begins it anew.
func TestFormatAnew(t *testing.T) {
	v := of(t, 60, "a", "b", "c", "d")
	want(t, "Format", store.Format(v.d, v.sectors), api.OK)
	v.was = plain{}
	v.open()
	v.wantAsPlain("formatted anew")
	want(t, "Room", v.s.Room(), 58)
	want(t, "Format of another log", store.Format(v.d, 50), api.OK)
	v.sectors = 50
	v.open()
	v.wantAsPlain("formatted anew, of another log")
	want(t, "Put", v.put("a", "x"), api.OK)
	v.commit()
	v.open()
	v.wantAsPlain("formatted anew, and gone on")
}

// P9.1: what refuses Format changes nothing: what stood on the disk goes on.
func TestFormatErrors(t *testing.T) {
	for _, sectors := range append(noSectors(), 30, 60) {
		for _, d := range []*disk.Disk{nil, {}} {
			want(t, "Format of no disk", store.Format(d, sectors), api.ErrNil)
		}
	}
	v := of(t, 60, "a", "b", "c")
	was := v.d.Copy()
	for _, sectors := range append(noSectors(), 625, 626, 640, 641, 642) {
		want(t, "Format of a log that may not be", store.Format(v.d, sectors), api.ErrArg)
		wantUnchanged(t, "Format of a log that may not be", v.d, was)
	}
	for sectors := 4; sectors < 11; sectors++ {
		want(t, "Format of a log that is too small", store.Format(v.d, sectors), api.ErrFull)
		wantUnchanged(t, "Format of a log that is too small", v.d, was)
		want(t, "Fuse", v.d.Fuse(0), api.OK)
		want(t, "Format of a log that is too small, ahead of the disk's error", store.Format(v.d, sectors), api.ErrFull)
		wantUnchanged(t, "Format of a log that is too small, ahead of the disk's error", v.d, was)
		want(t, "Crash", v.d.Crash(nil), api.OK)
	}
	v.open()
	v.wantAsPlain("Format was refused")
	want(t, "Format of the greatest log", store.Format(v.d, 624), api.OK)
	small := littered(t, 11, 3)
	was = small.Copy()
	for sectors := 4; sectors < 30; sectors++ {
		wanted := api.ErrArg
		if sectors <= 7 {
			wanted = api.ErrFull
		}
		want(t, "Format of a disk that is too small", store.Format(small, sectors), wanted)
		wantUnchanged(t, "Format of a disk that is too small", small, was)
	}
}

// P9.1: Format on a disk that dies is ErrDead, at whatever step.
func TestFormatDead(t *testing.T) {
	was := of(t, 10, "a", "b").d
	done := 0
	for fuse := 0; done == 0 && !t.Failed(); fuse++ {
		d := was.Copy()
		want(t, "Fuse", d.Fuse(fuse), api.OK)
		e := store.Format(d, 20)
		if e == api.OK {
			done = fuse
			continue
		}
		want(t, "Format", e, api.ErrDead)
		want(t, "the disk is dead", d.Dead(), true)
		left := d.Copy()
		want(t, "Format of a dead disk", store.Format(d, 20), api.ErrDead)
		wantUnchanged(t, "Format of a dead disk", d, left)
	}
	want(t, "Format has many steps", done > 40, true)
}

// P9.1: Open is the store as of its last commit, whatever its frames, and however often it is opened.
func TestOpen(t *testing.T) {
	v := of(t, 60, "a", "b", "c", "d", "e")
	want(t, "Put", v.put("a", "in the transaction"), api.OK)
	want(t, "Drop", v.drop("b"), api.OK)
	v.wantAsPlain("in the transaction")
	for _, frames := range []int{2, 3, 50, 100} {
		v.frames = frames
		v.open()
		v.wantAsPlain("opened")
		p, _, _ := v.s.Parts()
		want(t, "how many clean pages stay in memory, when all were asked for", len(p.Clean()), min(frames, 60))
	}
	want(t, "Put", v.put("f", some(2000, 1)), api.OK)
	v.commit()
	v.wantAsPlain("gone on")
	v.open()
	v.wantAsPlain("opened again")
}

// P9.1: what refuses Open changes nothing; there is no store then.
func TestOpenErrors(t *testing.T) {
	for _, d := range []*disk.Disk{nil, {}} {
		wantNoStore(t, "no disk", d, 30, 5, api.ErrNil)
		wantNoStore(t, "no disk, and no frames", d, 0, 0, api.ErrNil)
	}
	v := of(t, 60, "a", "b", "c")
	for _, frames := range noFrames() {
		wantNoStore(t, "frames that may not be", v.d, v.sectors, frames, api.ErrArg)
	}
	for _, sectors := range append(noSectors(), 625, 626, 641, 642) {
		wantNoStore(t, "sectors that may not be", v.d, sectors, 5, api.ErrArg)
	}
	want(t, "Checkpoint", v.s.Checkpoint(), api.OK) // else the log alone has all pages
	for _, sectors := range []int{4, 11, 399, 401, 404, 624} {
		wantNoStore(t, "the sectors of another log", v.d, sectors, 5, api.ErrBytes)
	}
	v.open()
	v.wantAsPlain("Open was refused")
	for _, d := range []*disk.Disk{littered(t, 30, 9), blank(t, 30, 9)} {
		wantNoStore(t, "no log", d, 30, 5, api.ErrNone)
		wantNoStore(t, "no log, and frames that may not be", d, 30, 1, api.ErrArg)
		wantNoStore(t, "a disk that is too small", d, 54, 5, api.ErrArg)
		want(t, "Write", d.Write(3, api.Sector{7}), api.OK)
		wantNoStore(t, "no log, and an open sector", d, 30, 5, api.ErrNone)
	}
}

// blank is a disk of noughts.
func blank(t *testing.T, sectors, pages int) *disk.Disk {
	t.Helper()
	d, e := disk.New(1 + sectors + 4*pages)
	want(t, "New", e, api.OK)
	return d
}

// wantNoStore: is Open refused by this error, ahead of the disk's one, too, and is the disk as it was?
func wantNoStore(t *testing.T, what string, d *disk.Disk, sectors, frames int, wanted api.Errno) {
	t.Helper()
	was := d.Copy()
	s, e := store.Open(d, sectors, frames)
	want(t, what+": Open's error", e, wanted)
	want(t, what+": there is no store", s == nil, true)
	wantUnchanged(t, what, d, was)
	if was == nil {
		return
	}
	o := d.Copy()
	want(t, "Fuse", o.Fuse(0), api.OK)
	_, e = store.Open(o, sectors, frames)
	want(t, what+": Open's error, ahead of the disk's", e, wanted)
	wantUnchanged(t, what+", of a fuse", o, was)
}

// P9.1: Open of a disk on which no heap, or no tree stands is ErrBytes.
func TestOpenNoStore(t *testing.T) {
	d := littered(t, 30, 9)
	want(t, "pool.Format", pool.Format(d, 30), api.OK)
	wantNoStore(t, "no heap", d, 30, 5, api.ErrBytes)
	p, e := pool.Open(d, 30, 5)
	want(t, "pool.Open", e, api.OK)
	want(t, "heap.Format", heap.Format(p), api.OK)
	want(t, "Commit", p.Commit(), api.OK)
	wantNoStore(t, "no tree", d, 30, 5, api.ErrBytes)
	h, e := heap.Open(p)
	want(t, "heap.Open", e, api.OK)
	want(t, "tree.Format", tree.Format(p, h), api.OK)
	wantNoStore(t, "a tree that was not committed", d, 30, 5, api.ErrBytes)
	want(t, "Commit", p.Commit(), api.OK)
	s, e := store.Open(d, 30, 5)
	want(t, "Open", e, api.OK)
	wantStore(t, "laid out by hand", s, plain{})
}

// P9.1: Open where the log has no count left for it is ErrFull.
func TestOpenFull(t *testing.T) {
	v := of(t, 20, "a", "b")
	want(t, "Checkpoint", v.s.Checkpoint(), api.OK)
	head := func(count, since uint64) {
		b := binary.BigEndian.AppendUint64(binary.BigEndian.AppendUint64([]byte("CPLG"), count), since)
		var s api.Sector
		copy(s[:], b)
		want(t, "Write", v.d.Write(0, s), api.OK)
		want(t, "Flush", v.d.Flush(), api.OK)
	}
	head(1<<62, 1<<62)
	wantNoStore(t, "no count is left", v.d, v.sectors, 5, api.ErrFull)
	head(1<<62-1, 1<<62-1)
	v.open()
	v.wantAsPlain("the last count")
	want(t, "Checkpoint without a count", v.s.Checkpoint(), api.ErrFull)
	want(t, "Put", v.put("c", "x"), api.OK)
	want(t, "Checkpoint without a count, where something is changed", v.s.Checkpoint(), api.ErrFull)
	v.commit()
	wantNoStore(t, "no count is left, and records are there", v.d, v.sectors, 5, api.ErrFull)
}

// P9.1: Open on a disk that dies is ErrDead, at whatever step; the store is there when the power is back.
func TestOpenDead(t *testing.T) {
	v := of(t, 20, "a", "b", "c")
	was, done := v.d.Copy(), 0
	for fuse := 0; done == 0 && !t.Failed(); fuse++ {
		d := was.Copy()
		want(t, "Fuse", d.Fuse(fuse), api.OK)
		s, e := store.Open(d, v.sectors, 5)
		if e == api.OK {
			done = fuse
			continue
		}
		want(t, "Open's error", e, api.ErrDead)
		want(t, "there is no store", s == nil, true)
		want(t, "the disk is dead", d.Dead(), true)
		left := d.Copy()
		_, e = store.Open(d, v.sectors, 5)
		want(t, "Open of a dead disk", e, api.ErrDead)
		wantUnchanged(t, "Open of a dead disk", d, left)
		want(t, "Crash", d.Crash([]int{2, 1, 2, 0, 1}), api.OK)
		v.d = d
		v.open()
		v.wantAsPlain("the power is back")
	}
	want(t, "Open has many steps", done > 10, true)
}
