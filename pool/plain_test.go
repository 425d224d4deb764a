package pool_test

import (
	"encoding/binary"
	"math"
	"slices"
	"testing"

	"coupon/api"
	"coupon/disk"
	"coupon/pool"
	"coupon/wal"
)

// plain is a pool as the document says it, on a disk of its own: all pages as of the last commit, and as they are in the transaction; which are dirty; which were asked for, in order.
type plain struct {
	d                    *disk.Disk
	log                  *wal.Log
	sectors, frames      int
	was, is              []api.Page
	dirty                []bool
	asked                []int
	dead                 bool
	checkpoints, commits int
}

// plainOpen opens a disk's pool, that must open.
func plainOpen(t *testing.T, d *disk.Disk, sectors, frames int) *plain {
	t.Helper()
	log, records, e := wal.Open(d, sectors)
	want(t, "the plain pool's log", e, api.OK)
	p := &plain{d: d, log: log, sectors: sectors, frames: frames}
	for n := range (d.Sectors() - 1 - sectors) / 4 {
		p.was = append(p.was, onDisk(t, d, sectors, n))
		p.dirty = append(p.dirty, false)
	}
	for _, c := range slices.Concat(records...) {
		if c.Number < len(p.was) {
			p.was[c.Number] = c.Page
			p.dirty[c.Number] = true
		}
	}
	p.is = slices.Clone(p.was)
	if len(records) > 0 {
		want(t, "the plain pool's first checkpoint", p.write(), true)
	}
	return p
}

// write is a checkpoint; is the disk alive behind it?
func (p *plain) write() bool {
	for n, x := range p.was {
		for i := 0; p.dirty[n] && i < 4; i++ {
			if p.d.Write(1+p.sectors+4*n+i, api.Sector(x[128*i:])) != api.OK {
				return false
			}
		}
	}
	if p.d.Flush() != api.OK || p.log.Truncate() != api.OK {
		return false
	}
	clear(p.dirty)
	p.checkpoints++
	return true
}

// ask is asking for a page.
func (p *plain) ask(n int) {
	if p.dirty[n] {
		return
	}
	p.asked = append(slices.DeleteFunc(p.asked, func(o int) bool { return o == n }), n)
	p.asked = p.asked[max(0, len(p.asked)-p.frames):]
}

// get is Get of a page that there is.
func (p *plain) get(n int) api.Page {
	if p.is[n] == p.was[n] {
		p.ask(n)
	}
	return p.is[n]
}

// put is Put of a page that there is.
func (p *plain) put(n int, x api.Page) {
	p.ask(n)
	p.is[n] = x
}

// changed are the pages that were changed.
func (p *plain) changed() []int {
	return p.those(func(n int) bool { return p.is[n] != p.was[n] })
}

// those are the pages of which it is so.
func (p *plain) those(so func(n int) bool) []int {
	var l []int
	for n := range p.is {
		if so(n) {
			l = append(l, n)
		}
	}
	return l
}

// commit is Commit of a pool that is not dead.
func (p *plain) commit() api.Errno {
	var r []api.Change
	for _, n := range p.changed() {
		r = append(r, api.Change{Number: n, Page: p.is[n]})
	}
	switch {
	case len(r) == 0:
		return api.OK
	case len(r) > 60:
		return api.ErrLong
	case wal.Need(len(r)) > p.sectors:
		return api.ErrFull
	}
	if wal.Need(len(r)) > p.log.Room() && !p.write() || p.log.Commit(r...) != api.OK {
		p.dead = true
		return api.ErrDead
	}
	for _, c := range r {
		p.was[c.Number] = c.Page
		p.dirty[c.Number] = true
	}
	p.asked = slices.DeleteFunc(p.asked, func(n int) bool { return p.dirty[n] })
	p.commits++
	return api.OK
}

// checkpoint is Checkpoint of a pool that is not dead.
func (p *plain) checkpoint() api.Errno {
	if len(p.changed()) > 0 {
		return api.ErrBusy
	}
	if p.dead = !p.write(); p.dead {
		return api.ErrDead
	}
	return api.OK
}

// pageOf is a page whose bytes all differ from those of one that is made of another number (up to 250), and of noughts.
func pageOf(x int) (p api.Page) {
	for i := range p {
		p[i] = byte(1 + (x+i)%251)
	}
	return p
}

// onDisk is a page as it stands on a disk, behind a log of so many sectors.
func onDisk(t *testing.T, d *disk.Disk, sectors, n int) (p api.Page) {
	t.Helper()
	for i := range 4 {
		s := sectorAt(t, d, 1+sectors+4*n+i)
		copy(p[128*i:], s[:])
	}
	return p
}

// headOf is a log's head, as layer 4 says it.
func headOf(count, since uint64) (s api.Sector) {
	b := binary.BigEndian.AppendUint64([]byte("CPLG"), count)
	copy(s[:], binary.BigEndian.AppendUint64(b, since))
	return s
}

// lay writes sectors from the i-th on, and flushes.
func lay(t *testing.T, d *disk.Disk, i int, l ...api.Sector) {
	t.Helper()
	for at, s := range l {
		want(t, "laid", d.Write(i+at, s), api.OK)
	}
	want(t, "laid", d.Flush(), api.OK)
}

// sectorAt is what a disk has there.
func sectorAt(t *testing.T, d *disk.Disk, i int) api.Sector {
	t.Helper()
	s, e := d.Read(i)
	want(t, "Read", e, api.OK)
	return s
}

// made is a new disk, which must be.
func made(t *testing.T, sectors int) *disk.Disk {
	t.Helper()
	d, e := disk.New(sectors)
	if e != api.OK {
		t.Fatalf("New(%d) answers %v", sectors, e)
	}
	return d
}

// littered is a disk with something in each sector, none of them open.
func littered(t *testing.T, sectors int) *disk.Disk {
	t.Helper()
	d := made(t, sectors)
	var l []api.Sector
	for i := range sectors {
		l = append(l, api.Sector(slices.Repeat([]byte{byte(1 + i%250)}, 128)))
	}
	lay(t, d, 0, l...)
	return d
}

// formatted is a disk of so many pages, behind a log of so many sectors.
func formatted(t *testing.T, sectors, pages int) *disk.Disk {
	t.Helper()
	d := made(t, 1+sectors+4*pages)
	if e := pool.Format(d, sectors); e != api.OK {
		t.Fatalf("Format of %d sectors, %d pages answers %v", sectors, pages, e)
	}
	return d
}

// opened is a pool; it must open.
func opened(t *testing.T, what string, d *disk.Disk, sectors, frames int) *pool.Pool {
	t.Helper()
	p, e := pool.Open(d, sectors, frames)
	if e != api.OK || p == nil {
		t.Fatalf("%s: Open of %d sectors, %d frames answers %v", what, sectors, frames, e)
	}
	return p
}

// begun is a pool of many frames that was just formatted, and opened.
func begun(t *testing.T, sectors, pages int) (*disk.Disk, *pool.Pool) {
	t.Helper()
	d := formatted(t, sectors, pages)
	return d, opened(t, "just formatted", d, sectors, 100)
}

// put puts a page, made of a number, into each of these numbers.
func put(t *testing.T, p *pool.Pool, x int, numbers ...int) {
	t.Helper()
	for i, n := range numbers {
		want(t, "Put", p.Put(n, pageOf(x+i)), api.OK)
	}
}

// commit puts such pages, and commits them.
func commit(t *testing.T, p *pool.Pool, x int, numbers ...int) {
	t.Helper()
	put(t, p, x, numbers...)
	want(t, "Commit", p.Commit(), api.OK)
}

// missing are disks that are not there: nil, and zero ones.
func missing() []*disk.Disk { return []*disk.Disk{nil, {}} }

// outside are numbers of sectors that no log has.
func outside() []int {
	return []int{math.MinInt, -1 << 32, -4, -1, 0, 1, 2, 3, 4001, 4002, 8191, 8192, math.MaxInt32, 1 << 32, 1<<32 + 4, math.MaxInt - 1, math.MaxInt}
}

// noFrames are numbers of frames that no pool has.
func noFrames() []int {
	return []int{math.MinInt, -2, -1, 0, 1, 101, 102, 1 << 32, 1<<32 + 2, math.MaxInt}
}

// noPages are numbers of pages that a pool of so many has not.
func noPages(pages int) []int {
	return []int{math.MinInt, -1 << 32, -2, -1, pages, pages + 1, math.MaxInt32, 1 << 32, 1 << 62, math.MaxInt}
}

// want: is it what was wanted?
func want[T comparable](t *testing.T, what string, is, wanted T) {
	t.Helper()
	if is != wanted {
		t.Errorf("%s: %v; wanted: %v", what, is, wanted)
	}
}

// wantList: are these the numbers?
func wantList(t *testing.T, what string, is []int, wanted ...int) {
	t.Helper()
	if !slices.Equal(is, wanted) {
		t.Errorf("%s: %v; wanted: %v", what, is, wanted)
	}
}

// wantPage: is it this page? (A page is too long to be told.)
func wantPage(t *testing.T, what string, is, wanted api.Page) {
	t.Helper()
	if is != wanted {
		t.Errorf("%s: a page that begins with %v; wanted: one with %v", what, is[:4], wanted[:4])
	}
}

// wantGet: does Get answer this page?
func wantGet(t *testing.T, what string, p *pool.Pool, n int, wanted api.Page) {
	t.Helper()
	x, e := p.Get(n)
	want(t, what+": Get's error", e, api.OK)
	wantPage(t, what+": Get", x, wanted)
}

// wantNot: is this error told, and no page?
func wantNot(t *testing.T, what string, p *pool.Pool, n int, wanted api.Errno) {
	t.Helper()
	x, e := p.Get(n)
	want(t, what+": Get's error", e, wanted)
	wantPage(t, what+": Get", x, api.Page{})
}

// wantLasts: are these the pages of a pool that is opened behind a loss of power? A copy of the disk loses it.
func wantLasts(t *testing.T, what string, d *disk.Disk, sectors int, pages ...api.Page) {
	t.Helper()
	c := d.Copy()
	c.Crash(nil)
	p := opened(t, what, c, sectors, 2)
	want(t, what+": Pages", p.Pages(), len(pages))
	for n, x := range pages {
		wantGet(t, what, p, n, x)
	}
}

// wantSteps: are just so many steps done still? (The disk is copied for it.)
func wantSteps(t *testing.T, what string, d *disk.Disk, steps int) {
	t.Helper()
	c := d.Copy()
	for range steps {
		want(t, what+": a step that is left", c.Flush(), api.OK)
	}
	want(t, what+": the step behind the last one", c.Flush(), api.ErrDead)
}

// wantUntouched: is a disk as it was, and was no step taken? (It was given a fuse of 9.)
func wantUntouched(t *testing.T, what string, d, was *disk.Disk) {
	t.Helper()
	want(t, what+": the disk is as it was", d.Same(was), true)
	wantList(t, what+": open sectors", d.Open(), was.Open()...)
	wantSteps(t, what, d, 9)
}

// wantRecords: does the log on a disk have these records?
func wantRecords(t *testing.T, what string, d *disk.Disk, sectors int, wanted ...[]api.Change) {
	t.Helper()
	_, records, e := wal.Open(d.Copy(), sectors)
	want(t, what+": the log opens", e, api.OK)
	if !slices.EqualFunc(records, wanted, slices.Equal) {
		t.Errorf("%s: there are %d records, wanted: %d, or they are others", what, len(records), len(wanted))
	}
}

// look is what a pool tells of itself.
type look struct {
	changed, dirty, clean []int
	pages, room           int
	dead                  bool
}

// wantLook: does a pool tell this?
func wantLook(t *testing.T, what string, p *pool.Pool, l look) {
	t.Helper()
	wantList(t, what+": Changed", p.Changed(), l.changed...)
	wantList(t, what+": Dirty", p.Dirty(), l.dirty...)
	wantList(t, what+": Clean", p.Clean(), l.clean...)
	want(t, what+": Pages", p.Pages(), l.pages)
	want(t, what+": Room", p.Room(), l.room)
	want(t, what+": Dead", p.Dead(), l.dead)
}

// wantAll: do all calls of a pool tell this error, and change nothing?
func wantAll(t *testing.T, what string, p *pool.Pool, e api.Errno) {
	t.Helper()
	for _, n := range append(noPages(4), 0, 1, 3) {
		wantNot(t, what, p, n, e)
		want(t, what+": Put", p.Put(n, pageOf(9)), e)
	}
	want(t, what+": Commit", p.Commit(), e)
	want(t, what+": Abort", p.Abort(), e)
	want(t, what+": Checkpoint", p.Checkpoint(), e)
}
