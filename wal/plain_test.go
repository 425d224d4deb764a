package wal_test

import (
	"encoding/binary"
	"math"
	"slices"
	"testing"

	"coupon/api"
	"coupon/disk"
	"coupon/wal"
)

// plainHead is a head's sector, as the document says it.
func plainHead(count, since uint64) (s api.Sector) {
	b := binary.BigEndian.AppendUint64([]byte("CPLG"), count)
	copy(s[:], binary.BigEndian.AppendUint64(b, since))
	return s
}

// plainBytes are a record's bytes.
func plainBytes(r ...api.Change) []byte {
	var b []byte
	for _, c := range r {
		b = binary.BigEndian.AppendUint32(b, uint32(c.Number))
		b = append(b, c.Page[:]...)
	}
	return b
}

// plainRow is the row of a tag and of bytes.
func plainRow(count uint64, number int, b []byte) []api.Sector {
	all := append(binary.BigEndian.AppendUint32(nil, uint32(len(b))), b...)
	all = append(all, make([]byte, (48-len(all)%48)%48)...)
	var halves []byte
	for place := range len(all) / 48 {
		halves = binary.BigEndian.AppendUint64(halves, count)
		halves = binary.BigEndian.AppendUint32(halves, uint32(number))
		halves = binary.BigEndian.AppendUint16(halves, uint16(place))
		halves = binary.BigEndian.AppendUint16(halves, uint16(len(all)/48))
		halves = append(halves, all[48*place:48*place+48]...)
	}
	halves = append(halves, make([]byte, len(halves)%128)...)
	var l []api.Sector
	for s := range slices.Chunk(halves, 128) {
		l = append(l, api.Sector(s))
	}
	return l
}

// plainNeed is how many sectors a record of so many pages has, that may be.
func plainNeed(pages int) int { return len(plainRow(1, 0, make([]byte, 516*pages))) }

// pageOf is a page whose bytes all differ from those of one that is made of another number (up to 250).
func pageOf(x int) (p api.Page) {
	for i := range p {
		p[i] = byte((x + i) % 251)
	}
	return p
}

// recordOf is a record of so many pages, that is unlike one that is made of another number (up to 250).
func recordOf(x, pages int) []api.Change {
	r := make([]api.Change, pages)
	for i := range r {
		r[i] = api.Change{Number: x + 1000*i, Page: pageOf(x + i)}
	}
	return r
}

// made is a new disk, which must be.
func made(t *testing.T, sectors int) *disk.Disk {
	t.Helper()
	d, e := disk.New(sectors)
	if e != api.OK {
		t.Fatalf("New(%d) answers %v", sectors, e)
	}
	return d
}

// formatted is a disk of so many sectors more than the log on it has.
func formatted(t *testing.T, sectors, more int) *disk.Disk {
	t.Helper()
	d := made(t, 1+sectors+more)
	if e := wal.Format(d, sectors); e != api.OK {
		t.Fatalf("Format of %d sectors answers %v", sectors, e)
	}
	return d
}

// opened is a log, and its records; it must open.
func opened(t *testing.T, what string, d *disk.Disk, sectors int) (*wal.Log, [][]api.Change) {
	t.Helper()
	l, r, e := wal.Open(d, sectors)
	if e != api.OK || l == nil {
		t.Fatalf("%s: Open of %d sectors answers %v", what, sectors, e)
	}
	return l, r
}

// begun is a log that was just formatted, and opened.
func begun(t *testing.T, sectors, more int) (*disk.Disk, *wal.Log) {
	t.Helper()
	d := formatted(t, sectors, more)
	l, r := opened(t, "just formatted", d, sectors)
	want(t, "just formatted: records", len(r), 0)
	return d, l
}

// lay writes sectors from the i-th on, and flushes.
func lay(t *testing.T, d *disk.Disk, i int, l ...api.Sector) {
	t.Helper()
	for at, s := range l {
		want(t, "laid", d.Write(i+at, s), api.OK)
	}
	want(t, "laid", d.Flush(), api.OK)
}

// laid is a disk on which stand a head, and sectors behind it.
func laid(t *testing.T, sectors int, head api.Sector, l ...api.Sector) *disk.Disk {
	t.Helper()
	d := made(t, sectors)
	lay(t, d, 0, head)
	lay(t, d, 1, l...)
	return d
}

// sectorAt is what a disk has there.
func sectorAt(t *testing.T, d *disk.Disk, i int) api.Sector {
	t.Helper()
	s, e := d.Read(i)
	want(t, "Read", e, api.OK)
	return s
}

// missing are disks that are not there: nil, and zero ones.
func missing() []*disk.Disk { return []*disk.Disk{nil, {}} }

// outside are numbers of sectors that no log has.
func outside() []int {
	return []int{math.MinInt, -1 << 32, -4, -1, 0, 1, 2, 3, 4001, 4002, 8191, 8192, math.MaxInt32, 1 << 32, 1<<32 + 4, math.MaxInt - 1, math.MaxInt}
}

// unfit are records that may not be.
func unfit() [][]api.Change {
	l := [][]api.Change{nil, {}, recordOf(1, 61), recordOf(1, 62), recordOf(1, 200)}
	for _, n := range []int{-1, -2, math.MinInt32, math.MinInt, math.MinInt + 1, 1 << 31, 1<<31 + 1, 1<<32 - 1, 1 << 32, 1<<32 + 1, math.MaxInt} {
		for _, pages := range []int{1, 2, 60} {
			for _, at := range []int{0, pages / 2, pages - 1} {
				r := recordOf(1, pages)
				r[at].Number = n
				l = append(l, r)
			}
		}
	}
	return l
}

// want: is it what was wanted?
func want[T comparable](t *testing.T, what string, is, wanted T) {
	t.Helper()
	if is != wanted {
		t.Errorf("%s: %v; wanted: %v", what, is, wanted)
	}
}

// same: are these the same records?
func same(l, o [][]api.Change) bool { return slices.EqualFunc(l, o, slices.Equal) }

// short tells records by their pages' numbers and first bytes.
func short(l [][]api.Change) [][]int {
	var all [][]int
	for _, r := range l {
		var s []int
		for _, c := range r {
			s = append(s, c.Number, int(c.Page[0]))
		}
		all = append(all, s)
	}
	return all
}

// wantRecords: are these the records?
func wantRecords(t *testing.T, what string, is, wanted [][]api.Change) {
	t.Helper()
	if !same(is, wanted) {
		t.Errorf("%s: the records are %v; wanted: %v", what, short(is), short(wanted))
	}
}

// wantSaid: does the log say these records? A copy of the disk loses its power and is opened, to see it.
func wantSaid(t *testing.T, what string, d *disk.Disk, sectors int, wanted [][]api.Change) {
	t.Helper()
	c := d.Copy()
	c.Crash(nil)
	_, r := opened(t, what, c, sectors)
	wantRecords(t, what, r, wanted)
}

// wantSettled: is nothing open, and does the disk read as another one does?
func wantSettled(t *testing.T, what string, d, o *disk.Disk) {
	t.Helper()
	want(t, what+": open sectors", len(d.Open()), 0)
	for i := range o.Sectors() {
		if sectorAt(t, d, i) != sectorAt(t, o, i) {
			t.Errorf("%s: sector %d is not as it should be", what, i)
		}
	}
}

// wantSteps: are just so many steps done still? (The disk is copied for it.)
func wantSteps(t *testing.T, what string, d *disk.Disk, steps int) {
	t.Helper()
	c := d.Copy()
	for range steps {
		want(t, what+": a step that is left", c.Flush(), api.OK)
	}
	want(t, what+": the step behind the last one", c.Flush(), api.ErrDead)
}

// wantUntouched: is a disk as it was, and was no step taken? (It was given a fuse of 9.)
func wantUntouched(t *testing.T, what string, d, was *disk.Disk) {
	t.Helper()
	want(t, what+": the disk is as it was", d.Same(was), true)
	if d.Sectors() > 0 {
		want(t, what+": the open sectors are as they were", slices.Equal(d.Open(), was.Open()), true)
		wantSteps(t, what, d, 9)
	}
}

// wantLooks: does a log tell this?
func wantLooks(t *testing.T, what string, l *wal.Log, room, many int, count, since uint64, dead bool) {
	t.Helper()
	want(t, what+": Room", l.Room(), room)
	want(t, what+": Len", l.Len(), many)
	want(t, what+": Count", l.Count(), count)
	want(t, what+": Since", l.Since(), since)
	want(t, what+": Dead", l.Dead(), dead)
}
