package wal_test

import (
	"slices"
	"testing"

	"coupon/api"
	"coupon/disk"
	"coupon/wal"
)

// littered is a disk with something in each sector, none of them open.
func littered(t *testing.T, sectors int) *disk.Disk {
	t.Helper()
	d := made(t, sectors)
	for i := range sectors {
		s := api.Sector(slices.Repeat([]byte{byte(1 + i%250)}, 128))
		want(t, "littered", d.Write(i, s), api.OK)
	}
	want(t, "littered", d.Flush(), api.OK)
	return d
}

// P4.1: Format leaves the head and noughts, flushed; what stands behind the log is left alone.
func TestFormat(t *testing.T) {
	for _, sectors := range []int{4, 5, 6, 30, 3999, 4000} {
		for _, more := range []int{0, 1, 7} {
			d := littered(t, 1+sectors+more)
			o := d.Copy()
			lay(t, o, 0, plainHead(1, 1))
			lay(t, o, 1, make([]api.Sector, sectors)...)
			want(t, "Format", wal.Format(d, sectors), api.OK)
			wantSettled(t, "formatted", d, o)
			want(t, "Format, again", wal.Format(d, sectors), api.OK)
			wantSettled(t, "formatted again", d, o)
		}
	}
	d := littered(t, api.MaxSectors)
	want(t, "Format on the greatest disk", wal.Format(d, 4000), api.OK)
	want(t, "the first sector behind the log", sectorAt(t, d, 4001)[0], byte(1+4001%250))
	want(t, "the log's last one", sectorAt(t, d, 4000), api.Sector{})
}

// P4.1: Format of a log that stands, whatever its head: it is a new one.
func TestFormatOfLog(t *testing.T) {
	for _, head := range []api.Sector{
		plainHead(1, 1), plainHead(77, 5), plainHead(api.MaxCount-1, 1), plainHead(api.MaxCount, api.MaxCount),
		plainHead(api.MaxCount+1, 1), plainHead(0, 0), {},
	} {
		d := laid(t, 40, head, plainRow(5, 0, plainBytes(recordOf(1, 1)...))...)
		want(t, "Format", wal.Format(d, 30), api.OK)
		o := made(t, 40)
		lay(t, o, 0, plainHead(1, 1))
		wantSettled(t, "formatted", d, o)
	}
	d, l := begun(t, 30, 0)
	want(t, "Commit", l.Commit(recordOf(1, 2)...), api.OK)
	want(t, "Commit", l.Commit(recordOf(2, 1)...), api.OK)
	want(t, "Format", wal.Format(d, 30), api.OK)
	l, r := opened(t, "formatted", d, 30)
	wantRecords(t, "formatted", r, nil)
	wantLooks(t, "formatted", l, 30, 0, 2, 1, false)
}

// P4.1: disks that are not there, whatever else is wrong.
func TestMissing(t *testing.T) {
	for _, d := range missing() {
		for _, sectors := range append(outside(), 4, 30, 4000) {
			want(t, "Format of no disk", wal.Format(d, sectors), api.ErrNil)
			l, r, e := wal.Open(d, sectors)
			want(t, "Open of no disk", e, api.ErrNil)
			want(t, "Open of no disk", l, nil)
			want(t, "Open of no disk", len(r), 0)
		}
	}
}

// P4.1: numbers of sectors that may not be, or that the disk has not: nothing is changed, no step is taken.
func TestSectorsThatMayNotBe(t *testing.T) {
	for _, on := range []int{1, 2, 4, 5, 6, 31, 4000, 4001, 4002, api.MaxSectors} {
		wrong := outside()
		for _, sectors := range []int{4, 5, 6, on - 1, on, on + 1, 30, 31, 3999, 4000} {
			if 1+sectors > on {
				wrong = append(wrong, sectors)
			} else if sectors >= 4 && sectors <= 4000 {
				want(t, "Format", wal.Format(made(t, on), sectors), api.OK)
				_, _, e := wal.Open(laid(t, on, plainHead(1, 1)), sectors)
				want(t, "Open", e, api.OK)
			}
		}
		d := laid(t, on, plainHead(1, 1))
		d.Write(0, plainHead(1, 1))
		d.Fuse(9)
		was := d.Copy()
		for _, sectors := range wrong {
			want(t, "Format of sectors that may not be", wal.Format(d, sectors), api.ErrArg)
			l, r, e := wal.Open(d, sectors)
			want(t, "Open of sectors that may not be", e, api.ErrArg)
			want(t, "Open of sectors that may not be", l, nil)
			want(t, "Open of sectors that may not be", len(r), 0)
		}
		wantUntouched(t, "sectors that may not be", d, was)
	}
}

// P4.1: of what is wrong the first one is told: sectors, the head, the count, the disk.
func TestWhichError(t *testing.T) {
	for _, c := range []struct {
		head    api.Sector
		sectors int
		format  api.Errno
		open    api.Errno
	}{
		{plainHead(0, 0), 3, api.ErrArg, api.ErrArg},
		{plainHead(api.MaxCount, 1), 50, api.ErrArg, api.ErrArg},
		{plainHead(0, 0), 30, api.ErrDead, api.ErrNone},
		{plainHead(api.MaxCount+1, 1), 30, api.ErrDead, api.ErrNone},
		{plainHead(api.MaxCount, 1), 30, api.ErrDead, api.ErrFull},
		{plainHead(1, 1), 30, api.ErrDead, api.ErrDead},
	} {
		d := laid(t, 40, c.head)
		d.Fuse(0)
		d.Flush()
		want(t, "the disk is dead", d.Dead(), true)
		want(t, "Format on a dead disk", wal.Format(d, c.sectors), c.format)
		l, r, e := wal.Open(d, c.sectors)
		want(t, "Open on a dead disk", e, c.open)
		want(t, "Open on a dead disk", l, nil)
		want(t, "Open on a dead disk", len(r), 0)
		want(t, "the head", sectorAt(t, d, 0), c.head)
	}
}

// P4.1: with a fuse at each step Format tells the disk's error, up to the one that is enough; then all is flushed.
func TestFormatWithFuse(t *testing.T) {
	for _, start := range []api.Sector{{}, plainHead(8, 3)} {
		for fuse := 0; ; fuse++ {
			d := laid(t, 12, start, plainRow(8, 0, plainBytes(recordOf(1, 1)...))...)
			d.Fuse(fuse)
			e := wal.Format(d, 10)
			if e == api.OK {
				o := made(t, 12)
				lay(t, o, 0, plainHead(1, 1))
				wantSettled(t, "a fuse that is enough", d, o)
				want(t, "steps that are enough are all needed", fuse >= 12, true)
				wantSteps(t, "a fuse that is just enough", d, 0)
				break
			}
			want(t, "a fuse that is not enough", e, api.ErrDead)
			want(t, "a fuse that is not enough: the disk is dead", d.Dead(), true)
			if fuse > 100 {
				t.Fatal("no fuse is enough")
			}
		}
	}
}
