package store_test

import (
	"fmt"
	"testing"

	"coupon/api"
	"coupon/store"
	"coupon/wal"
)

// P9.3: what was committed lasts; what was not, is let go by an abort, and by a loss of power.
func TestCommit(t *testing.T) {
	v := of(t, 60, "a", "b", "c")
	want(t, "Put", v.put("a", some(1500, 7)), api.OK)
	want(t, "Drop", v.drop("b"), api.OK)
	want(t, "Put", v.put("d", ""), api.OK)
	v.commit()
	v.wantAsPlain("committed")
	want(t, "Changed", v.s.Changed(), 0)
	v.put("e", "let go")
	v.drop("a")
	v.wantAsPlain("changed")
	v.abort()
	v.wantAsPlain("aborted")
	want(t, "Changed, aborted", v.s.Changed(), 0)
	v.put("e", "let go")
	want(t, "Crash", v.d.Crash([]int{1, 2, 1}), api.OK)
	v.open()
	v.wantAsPlain("behind a loss of power")
	was := v.d.Copy()
	v.commit()
	v.abort()
	wantUnchanged(t, "Commit, Abort where nothing was changed", v.d, was)
}

// fill changes all but so many of the pages of an empty store of that room: of one record, a page for each part, the first page, the leaf, a page of records.
func (v *both) fill(changed int) {
	v.t.Helper()
	want(v.t, "Put", v.put("a", some(400*(changed-3), 1)), api.OK)
	want(v.t, "Changed", v.s.Changed(), changed)
}

// P9.3: a transaction of more pages than a record of the log has is ErrLong, one of more than the log has room for ErrFull; it goes on then, as it was.
func TestCommitErrors(t *testing.T) {
	for _, x := range []struct {
		sectors, changed int
		wanted           api.Errno
	}{{4000, 53, api.OK}, {wal.Need(53), 53, api.OK}, {wal.Need(53) - 1, 53, api.ErrFull}, {wal.Need(46), 46, api.OK}, {wal.Need(46) - 1, 46, api.ErrFull}, {wal.Need(5), 5, api.OK}, {wal.Need(5) - 1, 5, api.ErrFull}, {11, 5, api.ErrFull}} {
		v := begun(t, x.sectors, 200)
		v.fill(x.changed)
		what := fmt.Sprintf("%d pages, of %d sectors", x.changed, x.sectors)
		want(t, what+": Commit", v.s.Commit(), x.wanted)
		v.wantAsPlain(what)
		if x.wanted == api.OK {
			v.was = v.is
			v.open()
			v.wantAsPlain(what + ", opened again")
			continue
		}
		want(t, what+": Changed", v.s.Changed(), x.changed)
		want(t, what+": Commit again", v.s.Commit(), x.wanted)
		v.goesOn(what)
	}
}

// goesOn: does the transaction, that could not be committed, go on, and can it be let go?
func (v *both) goesOn(what string) {
	v.t.Helper()
	want(v.t, what+": Drop", v.drop("a"), api.OK)
	v.wantAsPlain(what + ", gone on")
	was := v.d.Copy()
	s, e := store.Open(v.d, v.sectors, v.frames)
	want(v.t, what+": Open", e, api.OK)
	wantStore(v.t, what+": it was not committed", s, v.was)
	v.d = was
	v.abort()
	v.wantAsPlain(what + ", aborted")
	v.open()
	v.wantAsPlain(what + ", aborted, opened again")
}

// P9.3: 60 pages are committed, 61 are ErrLong; the transaction goes on, and is committed when it has fewer again.
func TestCommitLong(t *testing.T) {
	v := begun(t, 323, 200)
	want(t, "Put", v.put("a", some(20000, 1)), api.OK)
	want(t, "Put", v.put("b", some(400*7, 2)), api.OK)
	want(t, "Changed", v.s.Changed(), 60)
	v.commit()
	v.open()
	v.wantAsPlain("60 pages")
	want(t, "Drop", v.drop("a"), api.OK)
	want(t, "Drop", v.drop("b"), api.OK)
	v.commit()
	v = begun(t, 4000, 200)
	v.put("a", some(20000, 1))
	v.put("b", some(400*8, 2))
	want(t, "Changed", v.s.Changed(), 61)
	want(t, "Commit of 61 pages", v.s.Commit(), api.ErrLong)
	v.wantAsPlain("61 pages")
	want(t, "Changed", v.s.Changed(), 61)
	want(t, "Put", v.put("c", some(4000, 3)), api.OK)
	want(t, "Commit of more", v.s.Commit(), api.ErrLong)
	v.wantAsPlain("more pages")
	v.goesOn("61 pages")
	v.put("a", some(20000, 1))
	v.put("b", some(400*7, 2))
	v.commit()
	v.open()
	v.wantAsPlain("committed with fewer")
}

// P9.3: Commit writes a checkpoint where the log has no room; the store goes on, however often.
func TestCommitOften(t *testing.T) {
	v := begun(t, 40, 20)
	for i := range 60 {
		want(t, "Put", v.put("n", fmt.Sprint(i)), api.OK)
		want(t, "Put", v.put(string([]byte{'k', byte(i % 7)}), some(30*i%500, i)), api.OK)
		v.commit()
		if i%8 == 0 {
			v.wantAsPlain("committed often")
			v.open()
		}
	}
	v.open()
	v.wantAsPlain("committed often, opened again")
}

// P9.3: Checkpoint writes what was committed into its place; where something is changed it is ErrBusy.
func TestCheckpoint(t *testing.T) {
	v := of(t, 60, "a", "b", "c")
	v.put("d", "changed")
	was := v.d.Copy()
	want(t, "Checkpoint where something is changed", v.s.Checkpoint(), api.ErrBusy)
	wantUnchanged(t, "Checkpoint where something is changed", v.d, was)
	v.wantAsPlain("Checkpoint was refused")
	v.commit()
	p, _, _ := v.s.Parts()
	want(t, "pages are dirty", len(p.Dirty()) > 0, true)
	want(t, "Checkpoint", v.s.Checkpoint(), api.OK)
	wantList(t, "what is dirty", p.Dirty())
	want(t, "the log's room", p.Room(), v.sectors)
	v.wantAsPlain("a checkpoint")
	v.put("a", "more")
	v.commit()
	v.wantAsPlain("committed behind a checkpoint")
	v.open()
	v.wantAsPlain("a checkpoint, opened again")
}

// P9.1 to P9.3, P0.6: a store that is not there is ErrNil, ahead of all, and tells nothing.
func TestNone(t *testing.T) {
	for _, s := range []*store.Store{nil, {}} {
		v := &both{t: t, s: s}
		v.wantRefuses("no store", api.ErrNil)
		want(t, "Changed", s.Changed(), 0)
		want(t, "Dead", s.Dead(), false)
	}
}
