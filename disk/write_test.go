package disk_test

import (
	"math"
	"testing"

	"coupon/api"
	"coupon/disk"
)

// P3.1: numbers of sectors that may be, and those that may not.
func TestNew(t *testing.T) {
	for _, n := range []int{1, 2, 3, 64, 4001, api.MaxSectors - 1, api.MaxSectors} {
		d := made(t, n)
		want(t, "Sectors", d.Sectors(), n)
		want(t, "Dead", d.Dead(), false)
		wantOpen(t, "a new disk", d)
		for i := range n {
			wantRead(t, "a new disk", d, i, api.Sector{})
		}
		for _, i := range outside(n) {
			_, e := d.Read(i)
			want(t, "Read of a sector that there is not", e, api.ErrArg)
		}
	}
	for _, n := range []int{0, -1, -2, math.MinInt, api.MaxSectors + 1, api.MaxSectors + 2, math.MaxInt32, 1 << 32, 1<<32 + 1, math.MaxInt} {
		d, e := disk.New(n)
		want(t, "New of too few or too many", e, api.ErrArg)
		want(t, "New of too few or too many", d, nil)
	}
}

// P3.1: what is read is what was written last, in that sector alone.
func TestWriteRead(t *testing.T) {
	for _, sectors := range []int{1, 2, 5} {
		for i := range sectors {
			d := made(t, sectors)
			for _, s := range []api.Sector{filled(1), filled(2), {}, filled(3), filled(3)} {
				want(t, "Write", d.Write(i, s), api.OK)
				for o := range sectors {
					if o == i {
						wantRead(t, "the one that was written", d, o, s)
					} else {
						wantRead(t, "one that was not written", d, o, api.Sector{})
					}
				}
			}
		}
	}
	d := made(t, api.MaxSectors)
	for i := range api.MaxSectors {
		d.Write(i, filled(i%251))
	}
	for i := range api.MaxSectors {
		wantRead(t, "each sector written", d, i, filled(i%251))
	}
}

// P3.1: a change of a single byte, wherever it stands, is read.
func TestEachByte(t *testing.T) {
	for at := range api.SectorSize {
		d := made(t, 1)
		s := filled(9)
		d.Write(0, s)
		s[at] ^= 255
		wantRead(t, "what the caller has is changed", d, 0, filled(9))
		d.Write(0, s)
		wantRead(t, "a byte changed", d, 0, s)
		wantLasts(t, "a byte changed", d, 0, api.Sector{})
		d.Flush()
		wantLasts(t, "a byte changed, flushed", d, 0, s)
	}
}

// P3.1: Flush settles what is read, of all sectors; what is written behind it does not last.
func TestFlush(t *testing.T) {
	d := made(t, 3)
	d.Write(0, filled(1))
	d.Write(2, filled(2))
	d.Write(2, filled(3))
	for i := range 3 {
		wantLasts(t, "nothing flushed", d, i, api.Sector{})
	}
	want(t, "Flush", d.Flush(), api.OK)
	d.Write(0, filled(4))
	d.Write(1, filled(5))
	for i, s := range []api.Sector{filled(1), {}, filled(3)} {
		wantLasts(t, "flushed once", d, i, s)
	}
	for i, s := range []api.Sector{filled(4), filled(5), filled(3)} {
		wantRead(t, "written behind the flush", d, i, s)
	}
	want(t, "Flush, again", d.Flush(), api.OK)
	want(t, "Flush of nothing", d.Flush(), api.OK)
	for i, s := range []api.Sector{filled(4), filled(5), filled(3)} {
		wantRead(t, "flushed twice", d, i, s)
		wantLasts(t, "flushed twice", d, i, s)
	}
}

// P3.1: a sector that there is not is refused, ahead of a dead disk, and takes no step.
func TestNoSector(t *testing.T) {
	for _, sectors := range []int{1, 4} {
		for _, i := range outside(sectors) {
			d, p := made(t, sectors), plainOf(sectors)
			d.Write(0, filled(1))
			p.write(0, filled(1))
			d.Fuse(1)
			p.fuse = 1
			for range 3 {
				want(t, "Write of no sector", d.Write(i, filled(2)), api.ErrArg)
				s, e := d.Read(i)
				want(t, "Read of no sector", e, api.ErrArg)
				want(t, "Read of no sector", s, api.Sector{})
			}
			wantPlain(t, "behind what is refused", d, p)
			d.Flush()
			want(t, "no step is left: Write of no sector", d.Write(i, filled(2)), api.ErrArg)
			want(t, "no step is left: Write of no sector: Dead", d.Dead(), false)
			d.Flush()
			want(t, "dead: Write of no sector", d.Write(i, filled(2)), api.ErrArg)
			_, e := d.Read(i)
			want(t, "dead: Read of no sector", e, api.ErrArg)
		}
	}
}

// P3.1, P3.2, P3.3: disks that are not there, whatever else is wrong.
func TestMissing(t *testing.T) {
	for _, d := range missing() {
		for _, i := range append(outside(0), 0, 1) {
			want(t, "Write", d.Write(i, filled(1)), api.ErrNil)
			s, e := d.Read(i)
			want(t, "Read", e, api.ErrNil)
			want(t, "Read", s, api.Sector{})
			want(t, "Fuse", d.Fuse(i), api.ErrNil)
			want(t, "Crash", d.Crash([]int{i}), api.ErrNil)
		}
		want(t, "Flush", d.Flush(), api.ErrNil)
		want(t, "Flush, again", d.Flush(), api.ErrNil)
		want(t, "Crash", d.Crash(nil), api.ErrNil)
		want(t, "Sectors", d.Sectors(), 0)
		want(t, "Dead", d.Dead(), false)
		want(t, "Open", len(d.Open()), 0)
		want(t, "Copy", d.Copy(), nil)
	}
}
