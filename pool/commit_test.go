package pool_test

import (
	"testing"

	"coupon/api"
	"coupon/pool"
	"coupon/wal"
)

// change is a page made of a number, as a record has it.
func change(n, x int) api.Change { return api.Change{Number: n, Page: pageOf(x)} }

// P6.2: Commit makes one record of the pages that were changed, by rising numbers, flushed; none is written into its place.
func TestCommit(t *testing.T) {
	d, p := begun(t, 60, 12)
	places := d.Copy()
	put(t, p, 1, 11, 0, 7, 3)
	want(t, "Put as it was", p.Put(7, api.Page{}), api.OK)
	want(t, "Commit", p.Commit(), api.OK)
	first := []api.Change{change(0, 2), change(3, 4), change(11, 1)}
	wantRecords(t, "committed", d, 60, first)
	wantLook(t, "committed", p, look{dirty: []int{0, 3, 11}, clean: []int{7}, pages: 12, room: 60 - wal.Need(3)})
	commit(t, p, 20, 3)
	wantRecords(t, "committed twice", d, 60, first, []api.Change{change(3, 20)})
	wantLook(t, "committed twice", p, look{dirty: []int{0, 3, 11}, clean: []int{7}, pages: 12, room: 60 - wal.Need(3) - wal.Need(1)})
	wantList(t, "open sectors", d.Open())
	for n := range 12 {
		wantPage(t, "its place", onDisk(t, d, 60, n), onDisk(t, places, 60, n))
	}
	wantGet(t, "committed", p, 3, pageOf(20))
}

// P6.2: where nothing was changed, Commit does nothing: no step is taken.
func TestCommitNothing(t *testing.T) {
	d, p := begun(t, 4, 4)
	d.Fuse(9)
	was := d.Copy()
	want(t, "Commit", p.Commit(), api.OK)
	put(t, p, 1, 1, 2)
	want(t, "Put as it was", p.Put(1, api.Page{}), api.OK)
	want(t, "Put as it was", p.Put(2, api.Page{}), api.OK)
	want(t, "Commit", p.Commit(), api.OK)
	wantUntouched(t, "nothing was changed", d, was)
}

// P6.2: up to 60 pages are committed; more are ErrLong, ahead of ErrFull, and stay changed.
func TestLong(t *testing.T) {
	for _, sectors := range []int{4, 322, 323, 1000} {
		d, p := begun(t, sectors, 70)
		var numbers []int
		for n := range 61 {
			numbers = append(numbers, n+4)
			put(t, p, n, n+4)
		}
		d.Fuse(9)
		was := d.Copy()
		want(t, "Commit of 61", p.Commit(), api.ErrLong)
		put(t, p, 9, 1)
		want(t, "Commit of 62", p.Commit(), api.ErrLong)
		wantList(t, "Changed", p.Changed(), append([]int{1}, numbers...)...)
		wantList(t, "Dirty", p.Dirty())
		wantUntouched(t, "too long", d, was)
		want(t, "Put as it was", p.Put(1, api.Page{}), api.OK)
		want(t, "Put as it was", p.Put(64, api.Page{}), api.OK)
		wanted := api.OK
		if sectors < 323 {
			wanted = api.ErrFull
		}
		d.Fuse(1000)
		want(t, "Commit of 60", p.Commit(), wanted)
		if sectors >= 323 {
			wantList(t, "Dirty", p.Dirty(), numbers[:60]...)
			want(t, "Room", p.Room(), sectors-323)
		}
	}
}

// P6.2: a log that has not room enough even when it is empty: ErrFull, and what was changed stays changed; nothing is checkpointed.
func TestFull(t *testing.T) {
	for _, pages := range []int{1, 2, 3, 10} {
		for less := range 3 {
			sectors := wal.Need(pages) - less
			d := formatted(t, sectors, 12)
			p := opened(t, "begun", d, sectors, 20)
			if sectors >= wal.Need(1) {
				commit(t, p, 30, 11)
			}
			wantDirty := p.Dirty()
			for n := range pages {
				put(t, p, n, n)
			}
			changed := p.Changed()
			if less == 0 {
				want(t, "Commit of what has room", p.Commit(), api.OK)
				wantList(t, "Dirty", p.Dirty(), changed...)
				continue
			}
			room := p.Room()
			d.Fuse(9)
			was := d.Copy()
			want(t, "Commit of what has no room", p.Commit(), api.ErrFull)
			want(t, "Commit of it, again", p.Commit(), api.ErrFull)
			wantUntouched(t, "no room", d, was)
			wantLook(t, "no room", p, look{changed, wantDirty, changed, 12, room, false})
			for n := range pages {
				wantGet(t, "no room", p, n, pageOf(n))
			}
			want(t, "Abort", p.Abort(), api.OK)
			wantList(t, "Changed, aborted", p.Changed())
		}
	}
}

// P6.2: where the log has no room, all that was committed is written into its place first, and the log is truncated; with just enough room it is not.
func TestCommitWithCheckpoint(t *testing.T) {
	for _, sectors := range []int{17, 18, 22, 23} {
		d, p := begun(t, sectors, 6)
		commit(t, p, 1, 4, 1)
		commit(t, p, 5, 4)
		put(t, p, 9, 0, 5, 1)
		want(t, "Room", p.Room(), sectors-17)
		if sectors < 23 {
			want(t, "Commit", p.Commit(), api.OK)
			wantLook(t, "no room", p, look{dirty: []int{0, 1, 5}, pages: 6, room: sectors - 17})
			wantRecords(t, "no room", d, sectors, []api.Change{change(0, 9), change(1, 11), change(5, 10)})
			wantPage(t, "its place", onDisk(t, d, sectors, 4), pageOf(5))
			wantPage(t, "its place", onDisk(t, d, sectors, 1), pageOf(2))
			wantPage(t, "the place of what is dirty", onDisk(t, d, sectors, 0), api.Page{})
		} else {
			want(t, "Put as it was", p.Put(0, api.Page{}), api.OK)
			want(t, "Put as it was", p.Put(5, api.Page{}), api.OK)
			want(t, "Commit", p.Commit(), api.OK)
			wantList(t, "just enough room: Dirty", p.Dirty(), 1, 4)
			want(t, "just enough room: Room", p.Room(), 0)
			wantPage(t, "just enough room: the place", onDisk(t, d, sectors, 4), api.Page{})
			wantRecords(t, "just enough room", d, sectors, []api.Change{change(1, 2), change(4, 1)}, []api.Change{change(4, 5)}, []api.Change{change(1, 11)})
		}
		wantGet(t, "behind it", p, 4, pageOf(5))
		wantGet(t, "behind it", p, 1, pageOf(11))
	}
}

// P6.2: Checkpoint writes what was committed, flushes it, and truncates the log; the pool goes on.
func TestCheckpoint(t *testing.T) {
	d, p := begun(t, 60, 6)
	commit(t, p, 1, 5, 2)
	commit(t, p, 3, 2, 0)
	wantList(t, "Dirty", p.Dirty(), 0, 2, 5)
	d.Fuse(3*4 + 1 + 2)
	want(t, "Checkpoint", p.Checkpoint(), api.OK)
	wantSteps(t, "Checkpoint", d, 0)
	d.Crash(nil)
	wantLook(t, "written", p, look{pages: 6, room: 60})
	wantRecords(t, "written", d, 60)
	want(t, "the head", sectorAt(t, d, 0), headOf(3, 3))
	wanted := []api.Page{pageOf(4), {}, pageOf(3), {}, {}, pageOf(1)}
	for n, x := range wanted {
		wantPage(t, "its place", onDisk(t, d, 60, n), x)
		wantGet(t, "written", p, n, x)
	}
	commit(t, p, 9, 3)
	wantLasts(t, "gone on", d, 60, pageOf(4), api.Page{}, pageOf(3), pageOf(9), api.Page{}, pageOf(1))
}

// P6.2: Checkpoint of what is in its place already takes a flush, and truncates the log.
func TestCheckpointOfNothing(t *testing.T) {
	d, p := begun(t, 20, 4)
	for count := uint64(3); count < 6; count++ {
		d.Fuse(3)
		want(t, "Checkpoint", p.Checkpoint(), api.OK)
		wantSteps(t, "Checkpoint", d, 0)
		want(t, "the head", sectorAt(t, d, 0), headOf(count, count))
		d.Crash(nil)
	}
}

// P6.2: Checkpoint is ErrBusy while something is changed, and changes nothing.
func TestBusy(t *testing.T) {
	d, p := begun(t, 20, 4)
	commit(t, p, 1, 1)
	put(t, p, 2, 2)
	d.Fuse(9)
	was := d.Copy()
	want(t, "Checkpoint", p.Checkpoint(), api.ErrBusy)
	wantUntouched(t, "busy", d, was)
	wantLook(t, "busy", p, look{[]int{2}, []int{1}, []int{2}, 4, 14, false})
	d.Crash(nil)
	want(t, "Put as it was", p.Put(2, api.Page{}), api.OK)
	want(t, "Checkpoint of what is as it was", p.Checkpoint(), api.OK)
	put(t, p, 3, 3)
	want(t, "Checkpoint", p.Checkpoint(), api.ErrBusy)
	want(t, "Abort", p.Abort(), api.OK)
	want(t, "Checkpoint, aborted", p.Checkpoint(), api.OK)
	put(t, p, 4, 0)
	want(t, "Checkpoint", p.Checkpoint(), api.ErrBusy)
	want(t, "Commit", p.Commit(), api.OK)
	want(t, "Checkpoint, committed", p.Checkpoint(), api.OK)
}

// P6.2: where no count is left, Checkpoint is ErrFull, ahead of ErrBusy, and so is a Commit that needs one; nothing is changed, and the pool goes on.
func TestNoCount(t *testing.T) {
	d := raised(t, formatted(t, 20, 4), api.MaxCount-1)
	p := opened(t, "the last count", d, 20, 9)
	commit(t, p, 1, 1)
	d.Fuse(9)
	was := d.Copy()
	want(t, "Checkpoint", p.Checkpoint(), api.ErrFull)
	put(t, p, 2, 0, 2)
	want(t, "Checkpoint, busy, too", p.Checkpoint(), api.ErrFull)
	wantUntouched(t, "Checkpoint", d, was)
	d.Crash(nil)
	want(t, "Commit of what has room", p.Commit(), api.OK)
	put(t, p, 5, 3)
	d.Fuse(9)
	was = d.Copy()
	want(t, "Commit of what has none", p.Commit(), api.ErrFull)
	wantUntouched(t, "Commit", d, was)
	wantLook(t, "no count", p, look{[]int{3}, []int{0, 1, 2}, []int{3}, 4, 3, false})
	wantGet(t, "no count", p, 3, pageOf(5))
	put(t, p, 5, 0, 1, 2)
	want(t, "Commit of 4, that the empty log has no room for", p.Commit(), api.ErrFull)
	want(t, "Abort", p.Abort(), api.OK)
	want(t, "Commit of nothing", p.Commit(), api.OK)
	_, e := pool.Open(d.Copy(), 20, 9)
	want(t, "Open", e, api.ErrFull)
	p = opened(t, "the last count", raised(t, formatted(t, 12, 4), api.MaxCount-1), 12, 9)
	commit(t, p, 1, 1)
	commit(t, p, 2, 2)
	want(t, "just enough room: Room", p.Room(), 0)
	many := raised(t, formatted(t, 20, 70), api.MaxCount-1)
	p = opened(t, "the last count", many, 20, 9)
	for n := range 61 {
		put(t, p, n, n)
	}
	want(t, "Commit of 61", p.Commit(), api.ErrLong)
}

// P6.2: the disk dies at each step of Commit, without a checkpoint and with one: the pool is dead, for good.
func TestCommitOnDyingDisk(t *testing.T) {
	for sectors, steps := range map[int]int{60: 6 + 1, 12: 2*4 + 1 + 2 + 6 + 1} {
		for fuse := range steps + 1 {
			d, p := begun(t, sectors, 4)
			commit(t, p, 1, 0)
			commit(t, p, 2, 3)
			put(t, p, 3, 2)
			d.Fuse(fuse)
			e := p.Commit()
			if fuse == steps {
				want(t, "the least fuse", e, api.OK)
				want(t, "the least fuse: Dead", p.Dead(), false)
				wantSteps(t, "the least fuse", d, 0)
				continue
			}
			want(t, "Commit on a dying disk", e, api.ErrDead)
			d.Crash(nil)
			if sectors == 60 {
				wantLook(t, "Commit on a dying disk", p, look{[]int{2}, []int{0, 3}, []int{2}, 4, 48, true})
			}
			wantDead(t, p)
		}
	}
}

// wantDead: is a pool dead, though its disk is not, ahead of what else may be wrong?
func wantDead(t *testing.T, p *pool.Pool) {
	t.Helper()
	want(t, "Dead", p.Dead(), true)
	wantAll(t, "dead", p, api.ErrDead)
}

// P6.2: the disk dies at each step of Checkpoint: the pool is dead, for good.
func TestCheckpointOnDyingDisk(t *testing.T) {
	for fuse := range 2*4 + 1 + 2 {
		d, p := begun(t, 60, 4)
		commit(t, p, 1, 0, 2)
		d.Fuse(fuse)
		want(t, "Checkpoint on a dying disk", p.Checkpoint(), api.ErrDead)
		d.Crash(nil)
		wantLook(t, "Checkpoint on a dying disk", p, look{dirty: []int{0, 2}, pages: 4, room: 60 - wal.Need(2), dead: true})
		wantDead(t, p)
	}
	d, p := begun(t, 60, 4)
	commit(t, p, 1, 0, 2)
	d.Fuse(2*4 + 1 + 2)
	want(t, "the least fuse", p.Checkpoint(), api.OK)
	want(t, "Dead", p.Dead(), false)
}

// P6.2: whoever takes the step that a disk dies of: its pool is dead, and stays so.
func TestDiesByAnother(t *testing.T) {
	for call, f := range []func(p *pool.Pool){
		func(p *pool.Pool) { wantNot(t, "dead", p, 0, api.ErrDead) },
		func(p *pool.Pool) { want(t, "Dead", p.Dead(), true) },
		func(p *pool.Pool) { want(t, "Commit of nothing", p.Commit(), api.ErrDead) },
		func(p *pool.Pool) { want(t, "Abort", p.Abort(), api.ErrDead) },
	} {
		d, p := begun(t, 20, 4)
		d.Fuse(0)
		want(t, "not dead yet: Dead", p.Dead(), false)
		wantGet(t, "not dead yet", p, call, api.Page{})
		want(t, "not dead yet: Commit of nothing", p.Commit(), api.OK)
		want(t, "the last step", d.Flush(), api.ErrDead)
		f(p)
		d.Crash(nil)
		wantAll(t, "the power back", p, api.ErrDead)
		want(t, "the power back: Dead", p.Dead(), true)
		want(t, "the power back: Dead of another pool", opened(t, "anew", d, 20, 4).Dead(), false)
	}
}
