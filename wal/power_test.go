package wal_test

import (
	"encoding/binary"
	"math/rand"
	"slices"
	"testing"

	"coupon/api"
	"coupon/disk"
	"coupon/wal"
)

// manyPicks are what the power may leave of so many open sectors: all alike; one unlike the others (the first one, and up to so many by chance); by chance.
func manyPicks(c *rand.Rand, open, ones int) [][]int {
	var l [][]int
	unlike := c.Perm(open)[:min(open, ones)]
	if open > 0 {
		unlike = append(unlike, 0)
	}
	for all := range 3 {
		l = append(l, slices.Repeat([]int{all}, open))
		for _, at := range unlike {
			for one := range 3 {
				picks := slices.Repeat([]int{all}, open)
				picks[at] = one
				l = append(l, picks)
			}
		}
	}
	for range 5 {
		picks := make([]int, open)
		for i := range picks {
			picks[i] = c.Intn(3)
		}
		l = append(l, picks)
	}
	return l
}

// wantOneOf: does a log say one of these lists of records? It is told which.
func wantOneOf(t *testing.T, what string, is [][]api.Change, of ...[][]api.Change) int {
	t.Helper()
	for i, l := range of {
		if same(is, l) {
			return i
		}
	}
	t.Fatalf("%s: the records are %v; wanted: one of %d lists, the first %v", what, short(is), len(of), short(of[0]))
	return -1
}

// wantGoesOn: is a log, that says these records, one that goes on: with records of whatever size behind them, as often as it is opened, and truncated?
func wantGoesOn(t *testing.T, what string, d *disk.Disk, sectors int, said [][]api.Change) {
	t.Helper()
	for _, sizes := range [][]int{{1}, {2}, {3}, {1, 1}, {1, 2, 1}, {2, 1}} {
		c := d.Copy()
		all := said
		for n, pages := range sizes {
			l, r := opened(t, what, c, sectors)
			wantRecords(t, what+", gone on", r, all)
			r = [][]api.Change{recordOf(101+n, pages)}
			want(t, what+": Commit", l.Commit(r[0]...), api.OK)
			all = append(slices.Clip(all), r[0])
			wantSaid(t, what+", gone on", c, sectors, all)
		}
		l, _ := opened(t, what, c, sectors)
		want(t, what+": Truncate", l.Truncate(), api.OK)
		want(t, what+": Commit", l.Commit(recordOf(120, 1)...), api.OK)
		wantSaid(t, what+", truncated", c, sectors, [][]api.Change{recordOf(120, 1)})
	}
}

// P4.4, P0.2: a record on its way is there whole, or is not; those ahead of it are; what was torn never comes back.
func TestPowerInCommit(t *testing.T) {
	c := rand.New(rand.NewSource(1))
	for _, ahead := range []int{0, 1, 2} {
		for _, pages := range []int{1, 2} {
			d, l := begun(t, 60, 0)
			var sure [][]api.Change
			for n := range ahead {
				sure = append(sure, recordOf(n, 1))
				want(t, "Commit", l.Commit(sure[n]...), api.OK)
			}
			whole := append(slices.Clip(sure), recordOf(50, pages))
			seen := [2]int{}
			for fuse := range plainNeed(pages) + 1 {
				o := d.Copy()
				l, _ := opened(t, "a life", o, 60)
				o.Fuse(fuse)
				want(t, "Commit", l.Commit(recordOf(50, pages)...), api.ErrDead)
				for _, picks := range manyPicks(c, fuse, fuse) {
					left := o.Copy()
					left.Crash(picks)
					_, r := opened(t, "behind the power", left, 60)
					which := wantOneOf(t, "behind the power", r, sure, whole)
					seen[which]++
					wantGoesOn(t, "behind the power", left, 60, [][][]api.Change{sure, whole}[which])
				}
			}
			want(t, "it is there, and it is not", seen[0] > 0 && seen[1] > 0, true)
		}
	}
}

// P4.4, P0.2: behind a truncation on its way all records are there, or none; none of them comes back.
func TestPowerInTruncate(t *testing.T) {
	sure := [][]api.Change{recordOf(1, 1), recordOf(2, 2), recordOf(3, 1)}
	seen := [2]int{}
	for fuse := range 2 {
		for pick := range 3 {
			d, l := begun(t, 60, 0)
			for _, r := range sure {
				want(t, "Commit", l.Commit(r...), api.OK)
			}
			d.Fuse(fuse)
			want(t, "Truncate", l.Truncate(), api.ErrDead)
			d.Crash([]int{pick})
			_, r := opened(t, "behind the power", d, 60)
			which := wantOneOf(t, "behind the power", r, sure, nil)
			seen[which]++
			wantGoesOn(t, "behind the power", d, 60, [][][]api.Change{sure, nil}[which])
		}
	}
	want(t, "they are there, and they are not", seen[0] > 0 && seen[1] > 0, true)
}

// P4.4, P0.2: Open on its way changes no record.
func TestPowerInOpen(t *testing.T) {
	sure := [][]api.Change{recordOf(1, 1), recordOf(2, 2)}
	for fuse := range 2 {
		for pick := range 3 {
			d, l := begun(t, 60, 0)
			for _, r := range sure {
				want(t, "Commit", l.Commit(r...), api.OK)
			}
			for range 4 {
				d.Fuse(fuse)
				_, _, e := wal.Open(d, 60)
				want(t, "Open", e, api.ErrDead)
				d.Crash([]int{pick})
				wantSaid(t, "behind the power", d, 60, sure)
			}
			wantGoesOn(t, "behind the power", d, 60, sure)
		}
	}
}

// P4.4: Format on its way leaves the records that there were, or none, or no log; none of them comes back.
func TestPowerInFormat(t *testing.T) {
	c := rand.New(rand.NewSource(2))
	var rows []row
	for n, pages := range []int{1, 1, 2, 1} {
		rows = append(rows, row{2, n, plainBytes(recordOf(n, pages)...)})
	}
	for _, head := range []api.Sector{{}, plainHead(2, 1), plainHead(9, 1), plainHead(9, 9), plainHead(api.MaxCount, 1)} {
		was := laid(t, 61, head, sectorsOf(rows...)...)
		_, sure, ahead := wal.Open(was.Copy(), 60)
		for fuse := 0; ; fuse++ {
			d := was.Copy()
			d.Fuse(fuse)
			if wal.Format(d, 60) == api.OK {
				break
			}
			for _, picks := range manyPicks(c, len(d.Open()), 3) {
				left := d.Copy()
				left.Crash(picks)
				l, r, e := wal.Open(left, 60)
				if e != api.OK {
					want(t, "what opened ahead opens behind the power", e, ahead)
					continue
				}
				said := [][][]api.Change{sure, nil}[wantOneOf(t, "behind the power", r, sure, nil)]
				if fuse%7 == 3 || fuse > 59 {
					wantGoesOn(t, "behind the power", left, 60, said)
				}
				want(t, "Commit", l.Commit(recordOf(99, 1)...), api.OK)
				wantSaid(t, "gone on", left, 60, append(slices.Clip(said), recordOf(99, 1)))
			}
		}
	}
}

// trickyPage is a page of the bytes of heads and of rows, such as a log has, shifted somehow.
func trickyPage(c *rand.Rand, count uint64) (p api.Page) {
	r := plainBytes(api.Change{Number: c.Intn(9), Page: pageOf(c.Intn(250))})
	var all []byte
	for range c.Intn(40) {
		all = append(all, 0)
	}
	for len(all) < 512 {
		head := plainHead(count+uint64(c.Intn(3)), 1)
		all = append(all, head[:c.Intn(2)*64]...)
		for _, s := range plainRow(count+uint64(c.Intn(4)), c.Intn(5), r) {
			all = append(all, s[:64+c.Intn(2)*64]...)
		}
	}
	copy(p[:], all)
	return p
}

// chanceRecord is a record by chance: small, or of tricky pages, or of bytes that are all alike.
func chanceRecord(c *rand.Rand, count uint64) []api.Change {
	r := make([]api.Change, 1+c.Intn(3))
	for i := range r {
		r[i].Number = c.Intn(1 << 31)
		switch c.Intn(4) {
		case 0:
			r[i].Page = pageOf(c.Intn(250))
		case 1:
			r[i].Page = trickyPage(c, count)
		case 2:
			c.Read(r[i].Page[:])
		}
	}
	return r
}

// lives is a log whose power goes again and again: what must be there; what may be there instead, where something is on its way.
type lives struct {
	t       *testing.T
	c       *rand.Rand
	d       *disk.Disk
	sectors int
	sure    [][]api.Change
	maybe   [][]api.Change
}

// live opens the log, and commits and truncates till the power goes, or for a while.
func (v *lives) live() {
	l, r, e := wal.Open(v.d, v.sectors)
	if e != api.OK {
		want(v.t, "Open", e, api.ErrDead)
		return
	}
	if wantOneOf(v.t, "opened", r, v.sure, v.maybe) == 1 {
		v.sure = v.maybe
	}
	v.maybe = v.sure
	for range 12 {
		next := [][]api.Change{}
		var e api.Errno
		if v.c.Intn(5) == 0 {
			e = l.Truncate()
		} else {
			r := chanceRecord(v.c, l.Count())
			next = append(slices.Clip(v.sure), r)
			e = l.Commit(r...)
		}
		switch e {
		case api.OK:
			v.sure, v.maybe = next, next
		case api.ErrFull:
		case api.ErrDead:
			v.maybe = next
			return
		default:
			v.t.Fatalf("the log answers %v", e)
		}
	}
}

// P4.4, P0.2: wherever the power goes, however often: what was answered is there, in order, and, it may be, what was on its way.
func TestLives(t *testing.T) {
	for seed := range 300 {
		c := rand.New(rand.NewSource(int64(seed)))
		v := &lives{t: t, c: c, sectors: 6 + c.Intn(60)}
		v.d = formatted(t, v.sectors, c.Intn(2))
		for range 25 {
			if c.Intn(8) > 0 {
				v.d.Fuse(c.Intn(2 + c.Intn(90)))
			}
			v.live()
			picks := make([]int, 40)
			few := 1 + c.Intn(8)
			for i := range picks {
				picks[i] = 1
				if c.Intn(8) < few {
					picks[i] = c.Intn(3)
				}
			}
			v.d.Crash(picks)
		}
		if t.Failed() {
			t.Fatalf("seed %d", seed)
		}
	}
}

// P4.4: pages whose bytes are those of a row that would be next, at each place of a half, are not taken for it.
func TestPagesLikeRows(t *testing.T) {
	for shift := range 64 {
		d, l := begun(t, 200, 0)
		var p api.Page
		next := plainRow(2, 1, plainBytes(recordOf(9, 1)...))
		at := shift
		for _, s := range next {
			at += copy(p[min(at, 512):], s[:])
		}
		r := []api.Change{{Number: 1, Page: p}}
		for n := range 3 {
			want(t, "Commit", l.Commit(r...), api.OK)
			wantSaid(t, "a page like a row", d, 200, slices.Repeat([][]api.Change{r}, n+1))
		}
		want(t, "the page is as it was", binary.BigEndian.Uint64(p[shift:]), 2)
		want(t, "Truncate", l.Truncate(), api.OK)
		want(t, "Commit", l.Commit(recordOf(1, 2)...), api.OK)
		wantSaid(t, "over pages like rows", d, 200, [][]api.Change{recordOf(1, 2)})
	}
}
