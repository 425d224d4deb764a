package pool_test

import (
	"math"
	"slices"
	"testing"

	"coupon/api"
	"coupon/disk"
	"coupon/pool"
	"coupon/wal"
)

// P6.1: Count is how many pages have room behind the log, fewer than 4, too; 0, where no such log may be, or has no room.
func TestCount(t *testing.T) {
	for _, sectors := range []int{4, 5, 20, 323, 3999, 4000} {
		for more := -3; more <= 41; more++ {
			if 1+sectors+more >= 1 {
				want(t, "Count", pool.Count(made(t, 1+sectors+more), sectors), max(more, 0)/4)
			}
		}
	}
	want(t, "Count on the greatest disk", pool.Count(made(t, api.MaxSectors), 4), 2046)
	for _, d := range append(missing(), made(t, 1), made(t, 30), made(t, api.MaxSectors)) {
		for _, sectors := range outside() {
			want(t, "Count behind a log that may not be", pool.Count(d, sectors), 0)
		}
	}
	for _, d := range append(missing(), made(t, 1), made(t, 4), made(t, 5)) {
		for _, sectors := range []int{4, 5, 4000} {
			want(t, "Count of a disk without room", pool.Count(d, sectors), 0)
		}
	}
	dead := made(t, 50)
	dead.Fuse(0)
	dead.Flush()
	want(t, "Count of a dead disk", pool.Count(dead, 4), 11)
}

// P6.1: Format leaves a log without records and pages of noughts, flushed; what stands behind the pages is let be.
func TestFormat(t *testing.T) {
	for _, sectors := range []int{4, 5, 6, 30, 323, 4000} {
		for _, pages := range []int{4, 5, 6, 250} {
			for more := range 4 {
				d := littered(t, 1+sectors+4*pages+more)
				o := d.Copy()
				lay(t, o, 0, make([]api.Sector, 1+sectors+4*pages)...)
				lay(t, o, 0, headOf(1, 1))
				want(t, "Format", pool.Format(d, sectors), api.OK)
				want(t, "formatted", d.Same(o), true)
				wantList(t, "formatted: open sectors", d.Open())
				want(t, "Format, again", pool.Format(d, sectors), api.OK)
				want(t, "formatted again", d.Same(o), true)
			}
		}
	}
	d := littered(t, api.MaxSectors)
	want(t, "Format of the greatest disk", pool.Format(d, 4), api.OK)
	want(t, "its last page's last sector", sectorAt(t, d, 8188), api.Sector{})
	want(t, "the sector behind it", sectorAt(t, d, 8189)[0], byte(1+8189%250))
}

// P6.1: Format of a disk with a pool: nothing of it is left.
func TestFormatOfPool(t *testing.T) {
	d, p := begun(t, 30, 5)
	commit(t, p, 1, 0, 1, 4)
	want(t, "Checkpoint", p.Checkpoint(), api.OK)
	commit(t, p, 9, 1, 2)
	for _, sectors := range []int{30, 26} {
		c := d.Copy()
		want(t, "Format", pool.Format(c, sectors), api.OK)
		wantLasts(t, "formatted", c, sectors, make([]api.Page, 5+(30-sectors)/4)...)
	}
}

// P6.1: errors of Format and Open, in their order; nothing is changed, no step is taken.
func TestArguments(t *testing.T) {
	for _, d := range missing() {
		for _, sectors := range append(outside(), 4, 30) {
			want(t, "Format of no disk", pool.Format(d, sectors), api.ErrNil)
			for _, frames := range append(noFrames(), 2, 100) {
				wantNoPool(t, "Open of no disk", d, sectors, frames, api.ErrNil)
			}
		}
	}
	for _, on := range []int{1, 4, 5, 20, 21, 24, 47, 300, 4016} {
		d := littered(t, on)
		d.Fuse(9)
		was := d.Copy()
		for _, sectors := range append(outside(), 4, 5, 31, 284, 4000) {
			if sectors >= 4 && sectors <= 4000 && on >= 1+sectors+16 {
				continue
			}
			want(t, "Format of what may not be", pool.Format(d, sectors), api.ErrArg)
			for _, frames := range []int{1, 2, 100, 101} {
				wantNoPool(t, "Open of what may not be", d, sectors, frames, api.ErrArg)
			}
		}
		wantUntouched(t, "what may not be", d, was)
	}
	for more := range 4 {
		want(t, "Format of 3 pages, and more", pool.Format(made(t, 1+20+4*3+more), 20), api.ErrArg)
		want(t, "Format of 4 pages, and more", pool.Format(made(t, 1+20+4*4+more), 20), api.OK)
	}
}

// wantNoPool: does Open tell this error, and no pool?
func wantNoPool(t *testing.T, what string, d *disk.Disk, sectors, frames int, wanted api.Errno) {
	t.Helper()
	p, e := pool.Open(d, sectors, frames)
	want(t, what, e, wanted)
	want(t, what+": the pool", p, nil)
}

// P6.1: frames are 2 to 100, else Open is ErrArg, ahead of ErrNone and ErrFull.
func TestFrames(t *testing.T) {
	for _, head := range []api.Sector{headOf(1, 1), headOf(api.MaxCount, 1), {}} {
		d := formatted(t, 20, 4)
		lay(t, d, 0, head)
		d.Fuse(9)
		was := d.Copy()
		for _, frames := range noFrames() {
			wantNoPool(t, "Open with frames that may not be", d, 20, frames, api.ErrArg)
		}
		wantUntouched(t, "frames that may not be", d, was)
	}
	for _, frames := range []int{2, 3, 99, 100} {
		d := formatted(t, 20, 110)
		p := opened(t, "frames that may be", d, 20, frames)
		wantLook(t, "opened", p, look{pages: 110, room: 20})
		var last []int
		for n := range 110 {
			wantGet(t, "opened", p, n, api.Page{})
			last = append(last, n)
		}
		wantList(t, "Clean", p.Clean(), last[110-frames:]...)
	}
}

// P6.1: a head that may not be is ErrNone, the greatest count ErrFull; nothing is changed, no step is taken.
func TestOpenErrors(t *testing.T) {
	for _, head := range []struct {
		sector api.Sector
		e      api.Errno
	}{
		{api.Sector{}, api.ErrNone}, {headOf(0, 0), api.ErrNone}, {headOf(1, 2), api.ErrNone}, {headOf(api.MaxCount+1, 1), api.ErrNone},
		{headOf(api.MaxCount, 1), api.ErrFull}, {headOf(api.MaxCount, api.MaxCount), api.ErrFull},
	} {
		d := formatted(t, 20, 4)
		lay(t, d, 0, head.sector)
		d.Fuse(9)
		was := d.Copy()
		wantNoPool(t, "Open", d, 20, 2, head.e)
		wantUntouched(t, "Open that is refused", d, was)
		d.Fuse(0)
		wantNoPool(t, "Open, ahead of the disk's error", d, 20, 2, head.e)
		want(t, "the disk is not dead", d.Dead(), false)
	}
}

// raised is a disk whose head has another count, since 1; what was committed ahead is there still.
func raised(t *testing.T, d *disk.Disk, count uint64) *disk.Disk {
	t.Helper()
	c := d.Copy()
	lay(t, c, 0, headOf(count, 1))
	return c
}

// P6.1: where opening the log leaves no count for the checkpoint, Open is ErrFull, and nothing is changed; without a record it opens.
func TestOpenWithLastCount(t *testing.T) {
	for _, sectors := range []int{6, 20, 4000} {
		d, p := begun(t, sectors, 4)
		empty := d.Copy()
		commit(t, p, 5, 2)
		full := raised(t, d, api.MaxCount-1)
		full.Fuse(9)
		was := full.Copy()
		wantNoPool(t, "Open", full, sectors, 2, api.ErrFull)
		wantNoPool(t, "Open with frames that may not be", full, sectors, 1, api.ErrArg)
		wantUntouched(t, "Open that is refused", full, was)
		q := opened(t, "a count is left", raised(t, d, api.MaxCount-2), sectors, 2)
		wantGet(t, "a count is left", q, 2, pageOf(5))
		want(t, "Checkpoint without a count", q.Checkpoint(), api.ErrFull)
		q = opened(t, "no record", raised(t, empty, api.MaxCount-1), sectors, 2)
		wantLook(t, "no record", q, look{pages: 4, room: sectors})
	}
}

// P6.1: what stands in the log is in its place, once it is opened, the later over the earlier; pages that there are not are let be.
func TestOpen(t *testing.T) {
	d := littered(t, 1+60+4*5+2)
	want(t, "the log's Format", wal.Format(d, 60), api.OK)
	log, _, e := wal.Open(d, 60)
	want(t, "the log's Open", e, api.OK)
	for _, r := range [][]api.Change{
		{{Number: 4, Page: pageOf(1)}, {Number: 0, Page: pageOf(2)}, {Number: 4, Page: pageOf(3)}},
		{{Number: 5, Page: pageOf(4)}, {Number: math.MaxInt32, Page: pageOf(5)}},
		{{Number: 2, Page: pageOf(6)}, {Number: 6, Page: pageOf(7)}, {Number: 0, Page: pageOf(8)}},
	} {
		want(t, "the log's Commit", log.Commit(r...), api.OK)
	}
	o := d.Copy()
	for n, x := range map[int]api.Page{0: pageOf(8), 2: pageOf(6), 4: pageOf(3)} {
		for i := range 4 {
			lay(t, o, 61+4*n+i, api.Sector(x[128*i:]))
		}
	}
	lay(t, o, 0, headOf(4, 4))
	p := opened(t, "opened", d, 60, 3)
	wantLook(t, "opened", p, look{pages: 5, room: 60})
	want(t, "what was in the log is in its place, and nothing else", d.Same(o), true)
	wantList(t, "open sectors", d.Open())
	for n, x := range []api.Page{pageOf(8), onDisk(t, o, 60, 1), pageOf(6), onDisk(t, o, 60, 3), pageOf(3)} {
		wantGet(t, "opened", p, n, x)
	}
}

// P6.1: the checkpoint comes wherever there is a record, even one of pages that there are not; without one there is none.
func TestOpenWithoutPages(t *testing.T) {
	d := formatted(t, 20, 4)
	opened(t, "no record", d, 20, 2)
	want(t, "no record: the head", sectorAt(t, d, 0), headOf(2, 1))
	log, _, _ := wal.Open(d, 20)
	want(t, "the log's Commit", log.Commit(api.Change{Number: 4, Page: pageOf(1)}), api.OK)
	d.Fuse(5)
	p := opened(t, "a record of no page", d, 20, 2)
	wantLook(t, "a record of no page", p, look{pages: 4, room: 20})
	want(t, "a record of no page: the head", sectorAt(t, d, 0), headOf(5, 5))
	wantSteps(t, "a record of no page", d, 0)
}

// P6.1: a dead disk, and one that dies: Format and Open are ErrDead, behind the errors that are ahead of the disk's.
func TestDeadDisk(t *testing.T) {
	steps := 0
	for fuse := 0; ; fuse++ {
		d := littered(t, 1+9+4*4)
		d.Fuse(fuse)
		if e := pool.Format(d, 9); e == api.OK {
			steps = fuse
			break
		} else {
			want(t, "Format on a disk that dies", e, api.ErrDead)
		}
		want(t, "Format on a dead disk", pool.Format(d, 9), api.ErrDead)
		wantNoPool(t, "Open of a dead disk", d, 9, 1, api.ErrArg)
		d.Crash(slices.Repeat([]int{1}, 30))
		want(t, "Format, the power back", pool.Format(d, 9), api.OK)
		wantLasts(t, "formatted, the power back", d, 9, make([]api.Page, 4)...)
	}
	want(t, "Format has a step for each of its sectors, at least", steps >= 1+9+4*4, true)
	d, p := begun(t, 20, 4)
	commit(t, p, 1, 0, 3)
	for fuse := range 2 + 8 + 1 + 2 {
		c := d.Copy()
		c.Fuse(fuse)
		wantNoPool(t, "Open of a disk that dies", c, 20, 2, api.ErrDead)
		wantNoPool(t, "Open of a dead disk", c, 20, 2, api.ErrDead)
		c.Crash(nil)
		wantLasts(t, "opened, the power back", c, 20, pageOf(1), api.Page{}, api.Page{}, pageOf(2))
	}
	d.Fuse(2 + 8 + 1 + 2)
	wantLook(t, "the least fuse", opened(t, "the least fuse", d, 20, 2), look{pages: 4, room: 20})
}
