package disk_test

import (
	"math"
	"math/big"
	"slices"
	"testing"

	"coupon/api"
	"coupon/disk"
)

// written is a sector that was written, and is not settled.
type written struct {
	sector int
	bytes  api.Sector
}

// plain is a disk as the document says it: what lasts, all that was written since, in order, and the fuse (below 0: none).
type plain struct {
	lasts []api.Sector
	since []written
	fuse  int
	dead  bool
}

// plainOf is a disk of so many sectors.
func plainOf(sectors int) *plain { return &plain{lasts: make([]api.Sector, sectors), fuse: -1} }

// copied goes on apart.
func (p *plain) copied() *plain {
	return &plain{slices.Clone(p.lasts), slices.Clone(p.since), p.fuse, p.dead}
}

// versions are a sector's, what lasts of it first.
func (p *plain) versions(i int) []api.Sector {
	l := []api.Sector{p.lasts[i]}
	for _, w := range p.since {
		if w.sector == i {
			l = append(l, w.bytes)
		}
	}
	return l
}

// read is what was written last.
func (p *plain) read(i int) api.Sector {
	l := p.versions(i)
	return l[len(l)-1]
}

// open are the open sectors.
func (p *plain) open() []int {
	var l []int
	for i := range p.lasts {
		if len(p.versions(i)) > 1 {
			l = append(l, i)
		}
	}
	return l
}

// step: is one more done?
func (p *plain) step() bool {
	p.dead = p.dead || p.fuse == 0
	if !p.dead && p.fuse > 0 {
		p.fuse--
	}
	return !p.dead
}

// write is Write of a sector that there is.
func (p *plain) write(i int, s api.Sector) api.Errno {
	if !p.step() {
		return api.ErrDead
	}
	p.since = append(p.since, written{i, s})
	return api.OK
}

// flush is Flush.
func (p *plain) flush() api.Errno {
	if !p.step() {
		return api.ErrDead
	}
	for _, w := range p.since {
		p.lasts[w.sector] = w.bytes
	}
	p.since = nil
	return api.OK
}

// crash is Crash.
func (p *plain) crash(picks []int) {
	left := slices.Clone(p.lasts)
	for at, i := range p.open() {
		pick := 0
		if at < len(picks) {
			pick = picks[at]
		}
		left[i] = outcomes(p.versions(i))[modulo(pick, 2*len(p.versions(i))-1)]
	}
	*p = plain{lasts: left, fuse: -1}
}

// modulo is from 0 to n - 1, of great and of negative numbers, too.
func modulo(pick, n int) int {
	return int(new(big.Int).Mod(big.NewInt(int64(pick)), big.NewInt(int64(n))).Int64())
}

// outcomes are what a loss of power may leave of versions, in the order of the picks.
func outcomes(versions []api.Sector) []api.Sector {
	l := versions[:1:1]
	for k := 1; k < len(versions); k++ {
		mixed := versions[k-1]
		for at := range 64 {
			mixed[at] = versions[k][at]
		}
		l = append(l, versions[k], mixed)
	}
	return l
}

// filled is a sector whose bytes all differ from those of one that is filled with another number (up to 250).
func filled(x int) (s api.Sector) {
	for i := range s {
		s[i] = byte((x + i) % 251)
	}
	return s
}

// made is a new disk, which must be.
func made(t *testing.T, sectors int) *disk.Disk {
	t.Helper()
	d, e := disk.New(sectors)
	if e != api.OK || d == nil {
		t.Fatalf("New(%d) answers %v", sectors, e)
	}
	return d
}

// missing are disks that are not there: nil, and zero ones.
func missing() []*disk.Disk { return []*disk.Disk{nil, {}} }

// outside are numbers of sectors that a disk of so many has not.
func outside(sectors int) []int {
	return []int{-1, -2, math.MinInt, sectors, sectors + 1, api.MaxSectors + 1, math.MaxInt, math.MaxInt32 + 1, 1 << 32}
}

// want: is it what was wanted?
func want[T comparable](t *testing.T, what string, is, wanted T) {
	t.Helper()
	if is != wanted {
		t.Errorf("%s: %v; wanted: %v", what, is, wanted)
	}
}

// wantRead: does a sector read so?
func wantRead(t *testing.T, what string, d *disk.Disk, i int, s api.Sector) {
	t.Helper()
	is, e := d.Read(i)
	want(t, what+": error of Read", e, api.OK)
	if is != s {
		t.Errorf("%s: sector %d reads %v; wanted: %v", what, i, is, s)
	}
}

// wantLasts: does that last of a sector? A copy loses its power, to see it.
func wantLasts(t *testing.T, what string, d *disk.Disk, i int, s api.Sector) {
	t.Helper()
	c := d.Copy()
	c.Crash(nil)
	wantRead(t, what+", what lasts", c, i, s)
}

// wantOpen: are these sectors open?
func wantOpen(t *testing.T, what string, d *disk.Disk, l ...int) {
	t.Helper()
	if is := d.Open(); !slices.Equal(is, l) {
		t.Errorf("%s: open are %v; wanted: %v", what, is, l)
	}
}

// wantSteps: are just so many steps done still? (The disk is copied for it.)
func wantSteps(t *testing.T, what string, d *disk.Disk, steps int) {
	t.Helper()
	c := d.Copy()
	for range steps {
		want(t, what+": a step that is left", c.Flush(), api.OK)
	}
	want(t, what+": the step behind the last one", c.Flush(), api.ErrDead)
}

// wantPlain: is the disk as the plain one is, whatever the power leaves of a sector?
func wantPlain(t *testing.T, what string, d *disk.Disk, p *plain) {
	t.Helper()
	want(t, what+": Sectors", d.Sectors(), len(p.lasts))
	want(t, what+": Dead", d.Dead(), p.dead)
	wantOpen(t, what, d, p.open()...)
	for i := range p.lasts {
		wantRead(t, what, d, i, p.read(i))
		wantLasts(t, what, d, i, p.lasts[i])
	}
	if p.fuse >= 0 && !p.dead {
		wantSteps(t, what, d, p.fuse)
	}
}
