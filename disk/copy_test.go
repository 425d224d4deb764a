package disk_test

import (
	"testing"

	"coupon/api"
	"coupon/disk"
)

// P3.3: a copy has all that there is: the versions, the fuse, whether it is dead.
func TestCopy(t *testing.T) {
	for pick := range 7 {
		d, p := made(t, 3), plainOf(3)
		for n, i := range []int{0, 1, 1, 2, 1} {
			d.Write(i, filled(n+1))
			p.write(i, filled(n+1))
		}
		d.Fuse(2)
		p.fuse = 2
		c := d.Copy()
		wantPlain(t, "a copy", c, p)
		c.Crash([]int{pick, pick, pick})
		wantPlain(t, "the disk, its copy's power gone", d, p)
		p.crash([]int{pick, pick, pick})
		wantPlain(t, "a copy, its power gone", c, p)
	}
	d := dying(t)
	c := d.Copy()
	want(t, "a dead disk's copy: Dead", c.Dead(), true)
	want(t, "a dead disk's copy: Write", c.Write(0, filled(9)), api.ErrDead)
	c.Crash(nil)
	want(t, "a dead disk, its copy's power gone: Dead", d.Dead(), true)
	want(t, "the copy: Dead", c.Dead(), false)
}

// P3.3: a disk and its copy go on apart, whichever is written first, however often it was written ahead.
func TestCopyApart(t *testing.T) {
	for ahead := range 10 {
		for pick := range 2*ahead + 5 {
			d, p := made(t, 2), plainOf(2)
			for n := range ahead {
				d.Write(1, filled(n+1))
				p.write(1, filled(n+1))
			}
			disks, plains := []*disk.Disk{d, d.Copy()}, []*plain{p, p.copied()}
			for turn := range 2 {
				for which := range 2 {
					s := filled(50 + 10*turn + which)
					disks[which].Write(1, s)
					plains[which].write(1, s)
				}
			}
			disks[0].Write(0, filled(200))
			plains[0].write(0, filled(200))
			disks[0].Fuse(1)
			plains[0].fuse = 1
			for which := range 2 {
				wantPlain(t, "apart", disks[which], plains[which])
				disks[which].Crash([]int{pick, pick})
				plains[which].crash([]int{pick, pick})
			}
			for which := range 2 {
				wantPlain(t, "apart, the power gone", disks[which], plains[which])
			}
		}
	}
}

// P3.3: a copy's flush is its own; so is its death.
func TestCopyFlush(t *testing.T) {
	d := made(t, 1)
	d.Write(0, filled(1))
	c := d.Copy()
	c.Flush()
	c.Fuse(0)
	c.Flush()
	wantOpen(t, "the disk", d, 0)
	wantOpen(t, "its copy", c)
	wantLasts(t, "the disk", d, 0, api.Sector{})
	wantLasts(t, "its copy", c, 0, filled(1))
	want(t, "the disk: Dead", d.Dead(), false)
	want(t, "its copy: Dead", c.Dead(), true)
	c = d.Copy()
	d.Flush()
	wantOpen(t, "a copy of one that was flushed then", c, 0)
	wantLasts(t, "a copy of one that was flushed then", c, 0, api.Sector{})
}

// wantSame: are two disks the same, either way round?
func wantSame(t *testing.T, what string, d, o *disk.Disk, wanted bool) {
	t.Helper()
	want(t, what, d.Same(o), wanted)
	want(t, what+", the other way round", o.Same(d), wanted)
	want(t, what+": with itself", d.Same(d), true)
}

// lay is a disk of so many sectors in one of which the one lasts, and the other is read.
func lay(t *testing.T, sectors, i int, lasts, reads api.Sector) *disk.Disk {
	d := made(t, sectors)
	d.Write(i, lasts)
	d.Flush()
	d.Write(i, reads)
	return d
}

// P3.3: disks that differ in one thing alone.
func TestSameNot(t *testing.T) {
	x, y, z := filled(1), filled(2), filled(3)
	for _, sectors := range []int{1, 2, 5} {
		for i := range sectors {
			d := lay(t, sectors, i, x, y)
			wantSame(t, "made alike", d, lay(t, sectors, i, x, y), true)
			wantSame(t, "a copy", d, d.Copy(), true)
			wantSame(t, "another is read", d, lay(t, sectors, i, x, z), false)
			wantSame(t, "another lasts", d, lay(t, sectors, i, z, y), false)
			wantSame(t, "read and lasting are changed round", d, lay(t, sectors, i, y, x), false)
			wantSame(t, "one sector more", d, lay(t, sectors+1, i, x, y), false)
			for o := range sectors {
				if o != i {
					wantSame(t, "another sector", d, lay(t, sectors, o, x, y), false)
				}
			}
			c := d.Copy()
			c.Flush()
			wantSame(t, "flushed", d, c, false)
			d.Flush()
			wantSame(t, "both flushed", d, c, true)
		}
	}
	for at := range api.SectorSize {
		s := x
		s[at]++
		wantSame(t, "another byte is read", lay(t, 2, 1, x, x), lay(t, 2, 1, x, s), false)
		wantSame(t, "another byte lasts", lay(t, 2, 1, x, x), lay(t, 2, 1, s, x), false)
	}
	wantSame(t, "new ones", made(t, 2), made(t, 2), true)
	wantSame(t, "new ones, of not as many sectors", made(t, 2), made(t, api.MaxSectors), false)
}

// P3.3: what stood between, which sectors are open, the fuse and death are not looked at.
func TestSame(t *testing.T) {
	x, y, z := filled(1), filled(2), filled(3)
	d, o := lay(t, 2, 0, x, y), lay(t, 2, 0, x, z)
	o.Write(0, y)
	wantSame(t, "another version between", d, o, true)
	open, settled := lay(t, 2, 0, x, x), lay(t, 2, 0, x, x)
	settled.Flush()
	wantSame(t, "one has it open, as it lasts", open, settled, true)
	o.Fuse(0)
	wantSame(t, "one has a fuse", d, o, true)
	o.Flush()
	want(t, "the other: Dead", o.Dead(), true)
	wantSame(t, "one is dead", d, o, true)
}

// P3.3: two that are not there are the same; one that is there is none of them.
func TestSameMissing(t *testing.T) {
	for _, d := range missing() {
		for _, o := range missing() {
			wantSame(t, "two that are not there", d, o, true)
		}
		wantSame(t, "one that is there", d, made(t, 1), false)
		wantSame(t, "one that is there, and dead", d, dying(t), false)
	}
}
