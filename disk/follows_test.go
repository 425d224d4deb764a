package disk_test

import (
	"math"
	"math/rand"
	"slices"
	"testing"

	"coupon/api"
	"coupon/disk"
)

// somePicks are picks by chance, some of them far off.
func somePicks(c *rand.Rand) []int {
	l := make([]int, c.Intn(6))
	for i := range l {
		l[i] = c.Intn(21) - 10
		if c.Intn(8) == 0 {
			l[i] = []int{math.MinInt, math.MaxInt}[c.Intn(2)] / (1 + c.Intn(3))
		}
	}
	return l
}

// randomCall does one call by chance to a disk and to the plain one.
func randomCall(t *testing.T, c *rand.Rand, d *disk.Disk, p *plain) {
	i, s := c.Intn(len(p.lasts)), filled(c.Intn(5))
	switch n := c.Intn(20); {
	case n < 10:
		want(t, "Write", d.Write(i, s), p.write(i, s))
	case n < 13:
		want(t, "Flush", d.Flush(), p.flush())
	case n < 15:
		steps := c.Intn(12)
		want(t, "Fuse", d.Fuse(steps), api.OK)
		p.fuse = steps
	case n < 18:
		picks := somePicks(c)
		want(t, "Crash", d.Crash(picks), api.OK)
		p.crash(picks)
	default:
		wrong := outside(len(p.lasts))
		want(t, "Write of no sector", d.Write(wrong[c.Intn(len(wrong))], s), api.ErrArg)
		want(t, "Fuse below 0", d.Fuse(-1-c.Intn(9)), api.ErrArg)
	}
}

// P3.1 to P3.4, P0.6: whatever is called, in whatever order, a disk is as the plain one.
func TestAsPlain(t *testing.T) {
	for seed := range 150 {
		c := rand.New(rand.NewSource(int64(seed)))
		sectors := 1 + c.Intn(5)
		d, p := made(t, sectors), plainOf(sectors)
		for range 60 {
			randomCall(t, c, d, p)
			wantPlain(t, "by chance", d, p)
			if c.Intn(10) == 0 {
				left := d
				d = d.Copy()
				left.Crash(somePicks(c))
				left.Write(0, filled(200))
			}
			if t.Failed() {
				t.Fatalf("seed %d", seed)
			}
		}
	}
}

// P3.4: what was flushed, and not written since, lasts wherever the power goes; each other sector is one of its versions, or a torn one of two that follow one another.
func TestFollows(t *testing.T) {
	c := rand.New(rand.NewSource(7))
	for range 400 {
		d, p := made(t, 6), plainOf(6)
		for range 10 {
			i, s := c.Intn(6), filled(c.Intn(250))
			d.Write(i, s)
			p.write(i, s)
		}
		d.Flush()
		p.flush()
		d.Fuse(c.Intn(12))
		for range 12 {
			i, s := c.Intn(4), filled(c.Intn(250))
			if d.Write(i, s) == api.OK {
				p.write(i, s)
			}
		}
		d.Crash([]int{c.Int(), -c.Int(), c.Int(), -c.Int()})
		for i := range 6 {
			is, _ := d.Read(i)
			if !slices.Contains(outcomes(p.versions(i)), is) {
				t.Fatalf("sector %d is none of what may be left of it", i)
			}
		}
		wantRead(t, "flushed, and not written since", d, 4, p.lasts[4])
		wantRead(t, "flushed, and not written since", d, 5, p.lasts[5])
	}
}

// P3.4: each version, and each torn one, is left by some pick.
func TestAllOutcomes(t *testing.T) {
	for n := range 6 {
		seen := map[api.Sector]int{}
		for pick := range 2*n + 1 {
			d := made(t, 1)
			for k := range n {
				d.Write(0, filled(k+1))
			}
			d.Crash([]int{pick})
			s, _ := d.Read(0)
			seen[s]++
		}
		want(t, "how many there are", len(seen), 2*n+1)
	}
}

// P0.6: a sector that is written very often, and many that are, are settled and lost as well.
func TestMany(t *testing.T) {
	d := made(t, api.MaxSectors)
	for n := range 20000 {
		d.Write(5, filled(n%251))
	}
	c := d.Copy()
	c.Crash([]int{2*12345 - 1})
	wantRead(t, "the version 12345", c, 5, filled(12344%251))
	d.Flush()
	wantLasts(t, "the last one, flushed", d, 5, filled(19999%251))
	for i := range api.MaxSectors {
		d.Write(i, filled(1))
	}
	picks := make([]int, api.MaxSectors+10)
	for i := range picks {
		picks[i] = i % 3
	}
	d.Crash(picks)
	wantRead(t, "pick 1", d, 1, filled(1))
	wantRead(t, "pick 0", d, 3, api.Sector{})
	wantRead(t, "pick 1", d, 8191, filled(1))
}
