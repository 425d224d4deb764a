package pool_test

import (
	"slices"
	"testing"

	"coupon/api"
	"coupon/pool"
)

// P6.2: the example: Put, Abort, Get: noughts; Put, Commit, Get: the page.
func TestExample(t *testing.T) {
	_, p := begun(t, 20, 4)
	put(t, p, 7, 1)
	wantGet(t, "put", p, 1, pageOf(7))
	want(t, "Abort", p.Abort(), api.OK)
	wantGet(t, "aborted", p, 1, api.Page{})
	commit(t, p, 7, 1)
	wantGet(t, "committed", p, 1, pageOf(7))
	want(t, "Abort", p.Abort(), api.OK)
	wantGet(t, "committed, then aborted", p, 1, pageOf(7))
}

// P6.2: Put is seen at once, in its page alone, and nothing of it stands on the disk; Abort lets all of it go.
func TestPut(t *testing.T) {
	d, p := begun(t, 40, 6)
	commit(t, p, 1, 0, 1, 2)
	want(t, "Checkpoint", p.Checkpoint(), api.OK)
	commit(t, p, 11, 2, 3)
	d.Fuse(9)
	was := d.Copy()
	committed := []api.Page{pageOf(1), pageOf(2), pageOf(11), pageOf(12), {}, {}}
	now := slices.Clone(committed)
	for i, n := range []int{5, 0, 2, 5, 3, 4, 0, 1} {
		now[n] = pageOf(100 + i)
		put(t, p, 100+i, n)
		for n, x := range now {
			wantGet(t, "put", p, n, x)
		}
		wantList(t, "Dirty", p.Dirty(), 2, 3)
	}
	wantList(t, "Changed", p.Changed(), 0, 1, 2, 3, 4, 5)
	want(t, "Abort", p.Abort(), api.OK)
	wantList(t, "Changed, aborted", p.Changed())
	wantList(t, "Dirty, aborted", p.Dirty(), 2, 3)
	for n, x := range committed {
		wantGet(t, "aborted", p, n, x)
	}
	want(t, "Abort, again", p.Abort(), api.OK)
	want(t, "Commit of nothing", p.Commit(), api.OK)
	wantUntouched(t, "aborted", d, was)
	wantLasts(t, "aborted", d, 40, committed...)
}

// P6.3: a page is changed while it is not as it was at the last commit, whatever was put in between.
func TestChanged(t *testing.T) {
	_, p := begun(t, 40, 6)
	commit(t, p, 1, 4, 1)
	want(t, "Checkpoint", p.Checkpoint(), api.OK)
	commit(t, p, 3, 2)
	was := []api.Page{{}, pageOf(2), pageOf(3), {}, pageOf(1), {}}
	for _, n := range []int{5, 4, 2} {
		want(t, "Put as it is", p.Put(n, was[n]), api.OK)
		wantList(t, "put as it is", p.Changed())
	}
	put(t, p, 50, 5, 4, 2, 0)
	wantList(t, "put", p.Changed(), 0, 2, 4, 5)
	for i, n := range []int{4, 2, 5, 0} {
		want(t, "Put as it was", p.Put(n, was[n]), api.OK)
		wantList(t, "put as it was", p.Changed(), [][]int{{0, 2, 5}, {0, 5}, {0}, nil}[i]...)
		wantGet(t, "put as it was", p, n, was[n])
	}
	x := was[1]
	for _, at := range []int{0, 127, 128, 511} {
		x[at] ^= 1
		want(t, "Put of another byte", p.Put(1, x), api.OK)
		wantList(t, "another byte", p.Changed(), 1)
		x[at] ^= 1
		want(t, "Put of the byte", p.Put(1, x), api.OK)
		wantList(t, "the byte as it was", p.Changed())
	}
}

// P6.2: a page that there is not is ErrArg, and changes nothing.
func TestNoPage(t *testing.T) {
	for _, pages := range []int{4, 5, 2000} {
		d, p := begun(t, 20, pages)
		commit(t, p, 1, pages-1)
		put(t, p, 3, 0)
		d.Fuse(9)
		was := d.Copy()
		for _, n := range noPages(pages) {
			wantNot(t, "no page", p, n, api.ErrArg)
			want(t, "Put of no page", p.Put(n, pageOf(5)), api.ErrArg)
		}
		wantLook(t, "no page", p, look{[]int{0}, []int{pages - 1}, []int{0}, pages, 14, false})
		wantUntouched(t, "no page", d, was)
		wantGet(t, "the last page", p, pages-1, pageOf(1))
		wantGet(t, "the first page", p, 0, pageOf(3))
	}
}

// P6.2, P6.3: pools that are not there, whatever else is wrong.
func TestNoPool(t *testing.T) {
	for _, p := range []*pool.Pool{nil, {}} {
		wantAll(t, "no pool", p, api.ErrNil)
		wantLook(t, "no pool", p, look{})
	}
}

// P6.3: lists that are answered are the caller's.
func TestOwnLists(t *testing.T) {
	_, p := begun(t, 40, 6)
	commit(t, p, 1, 0, 1)
	put(t, p, 3, 2, 3)
	for _, f := range []func() []int{p.Changed, p.Dirty, p.Clean} {
		l := f()
		was := slices.Clone(l)
		want(t, "it is of two", len(l), 2)
		clear(l)
		_ = append(l[:1], 9)
		wantList(t, "it is as it was", f(), was...)
	}
	wantGet(t, "put", p, 3, pageOf(4))
}

// P6.2, P6.4: bytes of a page that is opened anew stand where they stood, each of them.
func TestWholePages(t *testing.T) {
	d, p := begun(t, 400, 40)
	var all []api.Page
	for n := range 40 {
		all = append(all, pageOf(5*n))
		put(t, p, 5*n, n)
	}
	want(t, "Commit", p.Commit(), api.OK)
	wantLasts(t, "committed", d, 400, all...)
	want(t, "Checkpoint", p.Checkpoint(), api.OK)
	wantLasts(t, "in their places", d, 400, all...)
	for n, x := range all {
		wantPage(t, "on the disk", onDisk(t, d, 400, n), x)
		wantGet(t, "of the pool", p, n, x)
	}
}
