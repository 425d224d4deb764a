package pool_test

import (
	"slices"
	"testing"

	"coupon/api"
)

// P6.3: clean are the pages in the order in which they were asked for, by Get and by Put; one more lets the oldest go.
func TestClean(t *testing.T) {
	d := formatted(t, 40, 9)
	p := opened(t, "begun", d, 40, 3)
	for _, step := range []struct {
		n      int
		put    bool
		wanted []int
	}{
		{4, false, []int{4}},
		{4, false, []int{4}},
		{1, false, []int{4, 1}},
		{4, false, []int{1, 4}},
		{8, true, []int{1, 4, 8}},
		{1, false, []int{4, 8, 1}},
		{8, false, []int{4, 8, 1}}, // the transaction changed it: it is not asked for
		{8, true, []int{4, 1, 8}},  // but by Put it is
		{0, false, []int{1, 8, 0}},
		{1, true, []int{8, 0, 1}},
		{2, true, []int{0, 1, 2}},
		{8, false, []int{0, 1, 2}},
		{0, false, []int{1, 2, 0}},
	} {
		if step.put {
			put(t, p, 20+step.n, step.n)
		} else {
			wantGet(t, "got", p, step.n, map[bool]api.Page{true: pageOf(20 + step.n)}[slices.Contains(p.Changed(), step.n)])
		}
		wantList(t, "Clean", p.Clean(), step.wanted...)
	}
	want(t, "Abort", p.Abort(), api.OK)
	wantList(t, "Clean, aborted", p.Clean(), 1, 2, 0)
	wantGet(t, "aborted", p, 8, api.Page{})
	wantList(t, "Clean, aborted and asked", p.Clean(), 2, 0, 8)
	for _, n := range noPages(9) {
		p.Get(n)
		p.Put(n, api.Page{})
	}
	wantList(t, "Clean, no page asked for", p.Clean(), 2, 0, 8)
}

// P6.3: a page that is committed is not clean till it is written into its place and asked for again; what was not changed stays clean.
func TestCleanCommitted(t *testing.T) {
	d := formatted(t, 40, 9)
	p := opened(t, "begun", d, 40, 5)
	for _, n := range []int{0, 1, 2, 3} {
		wantGet(t, "begun", p, n, api.Page{})
	}
	put(t, p, 1, 1, 3, 7, 2)
	want(t, "Put as it was", p.Put(3, api.Page{}), api.OK)
	wantList(t, "Clean, put", p.Clean(), 0, 1, 7, 2, 3)
	want(t, "Commit", p.Commit(), api.OK)
	wantList(t, "Clean, committed", p.Clean(), 0, 3)
	wantList(t, "Dirty", p.Dirty(), 1, 2, 7)
	wantGet(t, "dirty", p, 7, pageOf(3))
	put(t, p, 9, 1)
	wantList(t, "Clean, dirty ones asked for", p.Clean(), 0, 3)
	want(t, "Abort", p.Abort(), api.OK)
	want(t, "Checkpoint", p.Checkpoint(), api.OK)
	wantList(t, "Clean, in their places", p.Clean(), 0, 3)
	wantGet(t, "in its place", p, 7, pageOf(3))
	wantGet(t, "in its place", p, 1, pageOf(1))
	wantList(t, "Clean, asked for", p.Clean(), 0, 3, 7, 1)
}

// P6.2, P6.3: a page that was let go is read again as it stands on the disk; one that is committed as it stands there already is dirty.
func TestCleanLetGo(t *testing.T) {
	d := formatted(t, 40, 9)
	p := opened(t, "begun", d, 40, 2)
	commit(t, p, 1, 0, 1, 2, 3)
	want(t, "Checkpoint", p.Checkpoint(), api.OK)
	for range 3 {
		for n := range 4 {
			wantGet(t, "asked for in turn", p, n, pageOf(1+n))
		}
	}
	put(t, p, 30, 0)
	wantGet(t, "another one", p, 1, pageOf(2))
	wantGet(t, "another one", p, 2, pageOf(3))
	wantGet(t, "changed, and not in a frame", p, 0, pageOf(30))
	want(t, "Put as it was", p.Put(0, pageOf(1)), api.OK)
	wantList(t, "Changed", p.Changed())
	commit(t, p, 40, 3)
	commit(t, p, 4, 3)
	wantPage(t, "on the disk", onDisk(t, d, 40, 3), pageOf(4))
	wantList(t, "Dirty", p.Dirty(), 3)
	wantList(t, "Clean", p.Clean(), 0)
}
