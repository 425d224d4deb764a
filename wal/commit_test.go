package wal_test

import (
	"slices"
	"testing"

	"coupon/api"
	"coupon/disk"
	"coupon/wal"
)

// P4.2: Commit writes the row behind the others, of the count and of how many there are, flushed; nothing else.
func TestCommit(t *testing.T) {
	for _, sizes := range [][]int{{1}, {2, 1}, {1, 1, 1}, {60}, {3, 60, 1, 2}, {60, 60}, {7, 5, 1, 1, 9, 2}} {
		d, l := begun(t, 1000, 5)
		o := d.Copy()
		var committed [][]api.Change
		used := 0
		for n, pages := range sizes {
			r := recordOf(n+1, pages)
			want(t, "Commit", l.Commit(r...), api.OK)
			committed = append(committed, recordOf(n+1, pages))
			want(t, "Commit leaves the record as it is", slices.Equal(r, committed[n]), true)
			clear(r)
			lay(t, o, 1+used, plainRow(2, n, plainBytes(committed[n]...))...)
			used += plainNeed(pages)
			wantSettled(t, "committed", d, o)
			wantLooks(t, "committed", l, 1000-used, n+1, 2, 1, false)
			wantSaid(t, "committed", d, 1000, committed)
		}
	}
}

// P4.2: numbers at both ends, the same page twice, pages of noughts are committed.
func TestCommitEdges(t *testing.T) {
	d, l := begun(t, 1000, 0)
	var committed [][]api.Change
	for _, n := range edgeNumbers() {
		r := []api.Change{{Number: n, Page: pageOf(1)}, {Number: 7}, {Number: n}, {Number: n, Page: pageOf(2)}}
		want(t, "Commit", l.Commit(r...), api.OK)
		committed = append(committed, r)
	}
	wantSaid(t, "the edges", d, 1000, committed)
}

// P4.2: a log that is opened goes on behind its records, with its own count.
func TestCommitOpened(t *testing.T) {
	d := formatted(t, 200, 0)
	o := d.Copy()
	var committed [][]api.Change
	used := 0
	for n := range 12 {
		l, r := opened(t, "a life", d, 200)
		wantRecords(t, "a life", r, committed)
		wantLooks(t, "a life", l, 200-used, n, uint64(n)+2, 1, false)
		committed = append(committed, recordOf(n, 1+n%3))
		want(t, "Commit", l.Commit(committed[n]...), api.OK)
		lay(t, o, 0, plainHead(uint64(n)+2, 1))
		lay(t, o, 1+used, plainRow(uint64(n)+2, n, plainBytes(committed[n]...))...)
		used += plainNeed(1 + n%3)
		wantSettled(t, "a life", d, o)
	}
}

// P4.2: a record that may not be is ErrArg, ahead of ErrFull; nothing is changed, no step is taken.
func TestCommitErrors(t *testing.T) {
	for _, sectors := range []int{4, 400} {
		d, l := begun(t, sectors, 0)
		d.Fuse(9)
		was := d.Copy()
		for _, r := range unfit() {
			want(t, "Commit of what may not be", l.Commit(r...), api.ErrArg)
		}
		want(t, "Commit of nothing", l.Commit(), api.ErrArg)
		wantUntouched(t, "what may not be", d, was)
		wantLooks(t, "what may not be", l, sectors, 0, 2, 1, false)
	}
}

// P4.2: where fewer sectors are left than a record needs, it is ErrFull, and the log goes on.
func TestFull(t *testing.T) {
	for _, pages := range []int{1, 2, 3, 59, 60} {
		for _, ahead := range []int{0, 1, 4} {
			used := 0
			if ahead > 0 {
				used = plainNeed(ahead)
			}
			for left := plainNeed(pages) - 2; left <= plainNeed(pages)+1; left++ {
				if used+left < 4 {
					continue
				}
				d, l := begun(t, used+left, 6)
				var committed [][]api.Change
				if ahead > 0 {
					committed = append(committed, recordOf(9, ahead))
					want(t, "Commit ahead", l.Commit(recordOf(9, ahead)...), api.OK)
				}
				want(t, "Room", l.Room(), left)
				if left >= plainNeed(pages) {
					want(t, "Commit of what has room", l.Commit(recordOf(1, pages)...), api.OK)
					wantSaid(t, "what has room", d, used+left, append(committed, recordOf(1, pages)))
					want(t, "Room behind it", l.Room(), left-plainNeed(pages))
					continue
				}
				d.Fuse(9)
				was := d.Copy()
				want(t, "Commit of what has no room", l.Commit(recordOf(1, pages)...), api.ErrFull)
				wantUntouched(t, "what has no room", d, was)
				wantLooks(t, "what has no room", l, left, len(committed), 2, 1, false)
			}
		}
	}
}

// P4.2: behind ErrFull a smaller record is committed, and behind Truncate the greater one.
func TestFullGoesOn(t *testing.T) {
	d, l := begun(t, 12, 0)
	want(t, "Commit of 3", l.Commit(recordOf(1, 3)...), api.ErrFull)
	want(t, "Commit of 1", l.Commit(recordOf(2, 1)...), api.OK)
	want(t, "Commit of 2", l.Commit(recordOf(3, 2)...), api.ErrFull)
	want(t, "Commit of 1", l.Commit(recordOf(4, 1)...), api.OK)
	want(t, "Room", l.Room(), 0)
	want(t, "Commit of 1", l.Commit(recordOf(5, 1)...), api.ErrFull)
	wantSaid(t, "full", d, 12, [][]api.Change{recordOf(2, 1), recordOf(4, 1)})
	want(t, "Truncate", l.Truncate(), api.OK)
	want(t, "Commit of 2", l.Commit(recordOf(6, 2)...), api.OK)
	wantSaid(t, "truncated", d, 12, [][]api.Change{recordOf(6, 2)})
	want(t, "Room", l.Room(), 1)
	_, least := begun(t, 4, 0)
	want(t, "Commit in the least log", least.Commit(recordOf(1, 1)...), api.ErrFull)
	want(t, "Truncate of the least log", least.Truncate(), api.OK)
}

// P4.2: the greatest log is filled to its last sector but four, and opened.
func TestGreatest(t *testing.T) {
	d, l := begun(t, 4000, 0)
	var committed [][]api.Change
	for n := range 12 {
		committed = append(committed, recordOf(n, 60))
		want(t, "Commit", l.Commit(committed[n]...), api.OK)
	}
	want(t, "Commit", l.Commit(recordOf(1, 60)...), api.ErrFull)
	for n := range 20 {
		committed = append(committed, recordOf(n, 1))
		want(t, "Commit", l.Commit(recordOf(n, 1)...), api.OK)
	}
	want(t, "Commit", l.Commit(recordOf(1, 1)...), api.ErrFull)
	wantLooks(t, "the greatest", l, 4, 32, 2, 1, false)
	wantSaid(t, "the greatest", d, 4000, committed)
	_, l = begun(t, 4000, 0)
	for n := range 666 {
		want(t, "Commit of a small one", l.Commit(recordOf(n%250, 1)...), api.OK)
	}
	wantLooks(t, "small ones", l, 4, 666, 2, 1, false)
}

// P4.2: Truncate saves the next count as count and as since, and nothing else; there are no records.
func TestTruncate(t *testing.T) {
	d, l := begun(t, 30, 3)
	for _, r := range [][]api.Change{recordOf(1, 2), recordOf(2, 1)} {
		want(t, "Commit", l.Commit(r...), api.OK)
	}
	o := d.Copy()
	want(t, "Truncate", l.Truncate(), api.OK)
	lay(t, o, 0, plainHead(3, 3))
	wantSettled(t, "truncated", d, o)
	wantLooks(t, "truncated", l, 30, 0, 3, 3, false)
	wantSaid(t, "truncated", d, 30, nil)
	want(t, "Truncate, again", l.Truncate(), api.OK)
	wantLooks(t, "truncated again", l, 30, 0, 4, 4, false)
	want(t, "Commit", l.Commit(recordOf(3, 2)...), api.OK)
	wantLooks(t, "behind it", l, 19, 1, 4, 4, false)
	lay(t, o, 0, plainHead(4, 4))
	lay(t, o, 1, plainRow(4, 0, plainBytes(recordOf(3, 2)...))...)
	wantSettled(t, "behind it", d, o)
	wantSaid(t, "the one that was let go stands behind it", d, 30, [][]api.Change{recordOf(3, 2)})
	l, _ = opened(t, "another life", d, 30)
	wantLooks(t, "another life", l, 19, 1, 5, 4, false)
	want(t, "Commit", l.Commit(recordOf(4, 1)...), api.OK)
	want(t, "Truncate", l.Truncate(), api.OK)
	wantLooks(t, "truncated in another life", l, 30, 0, 6, 6, false)
	l, _ = opened(t, "one more life", d, 30)
	wantLooks(t, "one more life", l, 30, 0, 7, 6, false)
}

// P4.2: the example: Format, Open: 2, 1; Truncate: 3, 3.
func TestExample(t *testing.T) {
	_, l := begun(t, 4, 0)
	wantLooks(t, "opened", l, 4, 0, 2, 1, false)
	want(t, "Truncate", l.Truncate(), api.OK)
	wantLooks(t, "truncated", l, 4, 0, 3, 3, false)
}

// P4.2: of the greatest count Truncate is ErrFull, and the log goes on.
func TestGreatestCount(t *testing.T) {
	d := laid(t, 40, plainHead(api.MaxCount-1, 7), plainRow(api.MaxCount-1, 0, plainBytes(recordOf(1, 1)...))...)
	l, r := opened(t, "one below the greatest", d, 30)
	wantRecords(t, "one below the greatest", r, [][]api.Change{recordOf(1, 1)})
	d.Fuse(9)
	was := d.Copy()
	want(t, "Truncate", l.Truncate(), api.ErrFull)
	wantUntouched(t, "the greatest", d, was)
	wantLooks(t, "the greatest", l, 24, 1, api.MaxCount, 7, false)
	want(t, "Commit", l.Commit(recordOf(2, 1)...), api.OK)
	want(t, "the row", sectorAt(t, d, 7), plainRow(api.MaxCount, 1, plainBytes(recordOf(2, 1)...))[0])
	wantLooks(t, "the greatest", l, 18, 2, api.MaxCount, 7, false)
	_, _, e := wal.Open(d, 30)
	want(t, "Open", e, api.ErrFull)

	d = laid(t, 40, plainHead(api.MaxCount-2, 7))
	l, _ = opened(t, "two below the greatest", d, 30)
	want(t, "Truncate", l.Truncate(), api.OK)
	wantLooks(t, "truncated", l, 30, 0, api.MaxCount, api.MaxCount, false)
	want(t, "Truncate, again", l.Truncate(), api.ErrFull)
	want(t, "Commit", l.Commit(recordOf(2, 1)...), api.OK)
}

// P4.2, P4.3: logs that are not there, whatever else is wrong.
func TestNoLog(t *testing.T) {
	for _, l := range []*wal.Log{nil, {}} {
		for _, r := range append(unfit(), recordOf(1, 1), recordOf(1, 60)) {
			want(t, "Commit", l.Commit(r...), api.ErrNil)
		}
		want(t, "Truncate", l.Truncate(), api.ErrNil)
		wantLooks(t, "no log", l, 0, 0, 0, 0, false)
	}
}

// wantDead: is a log dead, for good, and as it was?
func wantDead(t *testing.T, what string, d *disk.Disk, l *wal.Log, room, many int, count, since uint64) {
	t.Helper()
	for range 2 {
		wantLooks(t, what, l, room, many, count, since, true)
		was := d.Copy()
		for _, r := range append(unfit()[:6], recordOf(1, 1), recordOf(1, 60)) {
			want(t, what+": Commit", l.Commit(r...), api.ErrDead)
		}
		want(t, what+": Truncate", l.Truncate(), api.ErrDead)
		want(t, what+": the disk is as it was", d.Same(was), true)
		d.Crash(nil)
		want(t, what+": the disk is not dead", d.Dead(), false)
	}
}

// P4.2: with a fuse at each step Commit tells the disk's error, and the log is dead, though the disk comes up again.
func TestCommitWithFuse(t *testing.T) {
	for _, pages := range []int{1, 2, 5} {
		steps := plainNeed(pages) + 1
		for fuse := range steps + 3 {
			d, l := begun(t, 60, 0)
			want(t, "Commit ahead", l.Commit(recordOf(1, 1)...), api.OK)
			d.Fuse(fuse)
			e := l.Commit(recordOf(2, pages)...)
			if fuse >= steps {
				want(t, "a fuse that is enough", e, api.OK)
				wantLooks(t, "a fuse that is enough", l, 54-plainNeed(pages), 2, 2, 1, false)
				wantSteps(t, "a fuse that is enough", d, fuse-steps)
				continue
			}
			want(t, "a fuse that is not enough", e, api.ErrDead)
			want(t, "a fuse that is not enough: open sectors", len(d.Open()), fuse)
			wantSaid(t, "a fuse that is not enough", d, 60, [][]api.Change{recordOf(1, 1)})
			wantDead(t, "a fuse that is not enough", d, l, 54, 1, 2, 1)
		}
	}
}

// P4.2: with a fuse at each step Truncate tells the disk's error, and the log is dead; two steps are enough.
func TestTruncateWithFuse(t *testing.T) {
	for fuse := range 4 {
		d, l := begun(t, 60, 0)
		want(t, "Commit ahead", l.Commit(recordOf(1, 1)...), api.OK)
		d.Fuse(fuse)
		e := l.Truncate()
		if fuse >= 2 {
			want(t, "a fuse that is enough", e, api.OK)
			wantLooks(t, "a fuse that is enough", l, 60, 0, 3, 3, false)
			wantSteps(t, "a fuse that is enough", d, fuse-2)
			continue
		}
		want(t, "a fuse that is not enough", e, api.ErrDead)
		wantSaid(t, "a fuse that is not enough", d, 60, [][]api.Change{recordOf(1, 1)})
		wantDead(t, "a fuse that is not enough", d, l, 54, 1, 2, 1)
	}
}

// P4.2: ErrFull of a dead disk is no error of the disk: the log has not met that yet.
func TestFullOnDeadDisk(t *testing.T) {
	d, l := begun(t, 6, 0)
	d.Fuse(0)
	d.Flush()
	want(t, "Commit of what has no room", l.Commit(recordOf(1, 2)...), api.ErrFull)
	want(t, "Commit of what may not be", l.Commit(), api.ErrArg)
	wantLooks(t, "the disk is dead", l, 6, 0, 2, 1, false)
	want(t, "Commit", l.Commit(recordOf(1, 1)...), api.ErrDead)
	wantDead(t, "the disk is dead", d, l, 6, 0, 2, 1)
}
