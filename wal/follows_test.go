package wal_test

import (
	"math/rand"
	"slices"
	"testing"

	"coupon/api"
	"coupon/disk"
	"coupon/half"
	"coupon/wal"
)

// plain is a log as the document says it, on a disk of its own.
type plain struct {
	d            *disk.Disk
	sectors      int
	count, since uint64
	many, used   int
	dead         bool
}

// plainSettle writes sectors, one by one, and flushes.
func plainSettle(d *disk.Disk, i int, l ...api.Sector) bool {
	for at, s := range l {
		if d.Write(i+at, s) != api.OK {
			return false
		}
	}
	return d.Flush() == api.OK
}

// plainOpen opens what has a head that may be.
func plainOpen(d *disk.Disk, sectors int, count, since uint64) (*plain, [][]api.Change) {
	p := &plain{d: d, sectors: sectors, count: count + 1, since: since}
	var said [][]api.Change
	for {
		var l []api.Sector
		for i := p.used; i < sectors; i++ {
			s, _ := d.Read(1 + i)
			l = append(l, s)
		}
		tag, b, n, e := half.Join(l...)
		if e != api.OK || tag.Number != p.many || tag.Count < since || tag.Count > count || len(b) == 0 || len(b)%516 > 0 || len(b) > 60*516 {
			break
		}
		var r []api.Change
		for at := 0; at < len(b); at += 516 {
			number := int(b[at])<<24 | int(b[at+1])<<16 | int(b[at+2])<<8 | int(b[at+3])
			r = append(r, api.Change{Number: number, Page: api.Page(b[at+4:])})
		}
		if slices.ContainsFunc(r, func(c api.Change) bool { return c.Number >= 1<<31 }) {
			break
		}
		said = append(said, r)
		p.many++
		p.used += n
	}
	if !plainSettle(d, 0, plainHead(p.count, since)) {
		return nil, nil
	}
	return p, said
}

// commit is Commit of a record that may be.
func (p *plain) commit(r []api.Change) api.Errno {
	row := plainRow(p.count, p.many, plainBytes(r...))
	switch {
	case p.dead:
		return api.ErrDead
	case len(row) > p.sectors-p.used:
		return api.ErrFull
	}
	if p.dead = !plainSettle(p.d, 1+p.used, row...); p.dead {
		return api.ErrDead
	}
	p.many++
	p.used += len(row)
	return api.OK
}

// truncate is Truncate, of a count that is not the greatest.
func (p *plain) truncate() api.Errno {
	if p.dead = p.dead || !plainSettle(p.d, 0, plainHead(p.count+1, p.count+1)); p.dead {
		return api.ErrDead
	}
	p.count++
	p.since, p.many, p.used = p.count, 0, 0
	return api.OK
}

// wantPlain: are a log and its disk as the plain one, whatever the power leaves?
func wantPlain(t *testing.T, c *rand.Rand, l *wal.Log, d *disk.Disk, p *plain) {
	t.Helper()
	wantLooks(t, "as the plain one", l, p.sectors-p.used, p.many, p.count, p.since, p.dead)
	want(t, "the disks are the same", d.Same(p.d), true)
	picks := make([]int, 20)
	for i := range picks {
		picks[i] = c.Intn(3)
	}
	one, other := d.Copy(), p.d.Copy()
	one.Crash(picks)
	other.Crash(picks)
	want(t, "the disks are the same, the power gone", one.Same(other), true)
}

// both opens a log, and the plain one, whose head may be.
func both(t *testing.T, d, o *disk.Disk, sectors int, count, since uint64) (*wal.Log, *plain) {
	t.Helper()
	l, r := opened(t, "both", d, sectors)
	p, said := plainOpen(o, sectors, count, since)
	wantRecords(t, "both", r, said)
	return l, p
}

// randomCall does one call by chance to a log and to the plain one; is another life to begin?
func randomCall(t *testing.T, c *rand.Rand, l *wal.Log, d *disk.Disk, p *plain) bool {
	switch n := c.Intn(20); {
	case n < 11:
		r := chanceRecord(c, l.Count())
		want(t, "Commit", l.Commit(r...), p.commit(r))
	case n < 13:
		want(t, "Truncate", l.Truncate(), p.truncate())
	case n < 15:
		wrong := unfit()
		wanted := api.ErrArg
		if p.dead {
			wanted = api.ErrDead
		}
		want(t, "Commit of what may not be", l.Commit(wrong[c.Intn(len(wrong))]...), wanted)
	case n < 17:
		fuse := c.Intn(40)
		d.Fuse(fuse)
		p.d.Fuse(fuse)
	default:
		picks := make([]int, c.Intn(20))
		for i := range picks {
			picks[i] = c.Intn(7) - 3
		}
		d.Crash(picks)
		p.d.Crash(picks)
		return true
	}
	return false
}

// P4.1 to P4.3, P0.6: whatever is called, in whatever order, a log is as the plain one, and so is its disk.
func TestAsPlain(t *testing.T) {
	for seed := range 150 {
		c := rand.New(rand.NewSource(int64(seed)))
		sectors := 4 + c.Intn(60)
		d := formatted(t, sectors, 3)
		l, p := both(t, d, d.Copy(), sectors, 1, 1)
		for range 60 {
			if randomCall(t, c, l, d, p) {
				// which head lasts, the disk tells
				for _, h := range []struct{ count, since uint64 }{{p.count, p.since}, {p.count + 1, p.count + 1}} {
					if s := sectorAt(t, d, 0); s == plainHead(h.count, h.since) || half.Torn(s, api.Sector{}) == plainHead(h.count, h.since) {
						l, p = both(t, d, p.d, sectors, h.count, h.since)
						break
					}
				}
			}
			wantPlain(t, c, l, d, p)
			if t.Failed() {
				t.Fatalf("seed %d", seed)
			}
		}
	}
}

// litter puts rows, heads, pieces of them, noughts and bytes by chance into a disk's sectors, one behind the other.
func litter(c *rand.Rand, d *disk.Disk) {
	number := 0
	for i := 1; i < d.Sectors(); {
		var l []api.Sector
		b := plainBytes(chanceRecord(c, 1)...)
		switch c.Intn(12) {
		case 0:
			b = b[:c.Intn(len(b))]
		case 1:
			b[516*c.Intn(len(b)/516)] |= 128
		case 2:
			l = make([]api.Sector, 1+c.Intn(2))
		case 3:
			l = make([]api.Sector, 1)
			c.Read(l[0][:])
		}
		if l == nil {
			l = plainRow(uint64(2+c.Intn(8)), max(number-c.Intn(20)/19, 0), b)
			number++
		}
		if c.Intn(20) == 0 {
			at := c.Intn(len(l))
			l[at][c.Intn(128)] ^= byte(1 + c.Intn(255))
		}
		for _, s := range l {
			d.Write(i, s)
			i++
		}
	}
}

// P4.1, P0.6: of whatever stands on a disk a log says what the plain one says.
func TestLittered(t *testing.T) {
	most := 0
	for seed := range 600 {
		c := rand.New(rand.NewSource(int64(seed)))
		sectors := 4 + c.Intn(90)
		d := made(t, 1+sectors+c.Intn(20))
		litter(c, d)
		since := uint64(1 + c.Intn(3))
		count := since + uint64(c.Intn(10))
		d.Write(0, plainHead(count, since))
		l, p := both(t, d, d.Copy(), sectors, count, since)
		wantPlain(t, c, l, d, p)
		most = max(most, l.Len())
	}
	want(t, "there are some with records", most > 3, true)
}
