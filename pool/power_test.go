package pool_test

import (
	"math/rand"
	"slices"
	"testing"

	"coupon/api"
	"coupon/disk"
	"coupon/pool"
)

// manyPicks are what the power may leave of so many open sectors, each written once: all alike; one unlike the others; by chance.
func manyPicks(c *rand.Rand, open int) [][]int {
	var l [][]int
	for all := range 3 {
		l = append(l, slices.Repeat([]int{all}, open))
		for at := range open {
			picks := slices.Repeat([]int{all}, open)
			picks[at] = c.Intn(3)
			l = append(l, picks)
		}
	}
	for range 6 {
		picks := make([]int, open)
		for i := range picks {
			picks[i] = c.Intn(3)
		}
		l = append(l, picks)
	}
	return l
}

// pagesOf are all pages of a pool.
func pagesOf(t *testing.T, p *pool.Pool) []api.Page {
	t.Helper()
	var l []api.Page
	for n := range p.Pages() {
		x, e := p.Get(n)
		want(t, "Get", e, api.OK)
		l = append(l, x)
	}
	return l
}

// wantOneOf: are a pool's pages one of these lists? It is told which.
func wantOneOf(t *testing.T, what string, p *pool.Pool, of ...[]api.Page) int {
	t.Helper()
	is := pagesOf(t, p)
	at := slices.IndexFunc(of, func(l []api.Page) bool { return slices.Equal(l, is) })
	if at < 0 {
		var short []byte
		for _, x := range is {
			short = append(short, x[0])
		}
		t.Fatalf("%s: the pages are none of %d lists; they begin with %v", what, len(of), short)
	}
	return at
}

// with is pages, with others in some places.
func with(pages []api.Page, others map[int]api.Page) []api.Page {
	l := slices.Clone(pages)
	for n, x := range others {
		l[n] = x
	}
	return l
}

// wantGoesOn: does a disk's pool, of these pages, commit what is put, and checkpoint, and last?
func wantGoesOn(t *testing.T, what string, d *disk.Disk, sectors int, pages []api.Page) {
	t.Helper()
	p := opened(t, what, d, sectors, 3)
	for x := range 3 {
		commit(t, p, 200+x, x, 3)
		pages = with(pages, map[int]api.Page{x: pageOf(200 + x), 3: pageOf(201 + x)})
		wantLasts(t, what+", gone on", d, sectors, pages...)
	}
	want(t, what+": Checkpoint", p.Checkpoint(), api.OK)
	wantLasts(t, what+", gone on and written", d, sectors, pages...)
}

// halfway is a disk whose pool has pages in their places, and others that are dirty; and these pages.
func halfway(t *testing.T, sectors int) (*disk.Disk, *pool.Pool, []api.Page) {
	t.Helper()
	d, p := begun(t, sectors, 5)
	commit(t, p, 1, 0, 1)
	want(t, "Checkpoint", p.Checkpoint(), api.OK)
	commit(t, p, 11, 1, 3)
	commit(t, p, 20, 3)
	return d, p, []api.Page{pageOf(1), pageOf(11), {}, pageOf(20), {}}
}

// P6.4, P0.2: what is on its way by Commit, with a checkpoint ahead of it and without, is there whole, or not at all.
func TestPowerInCommit(t *testing.T) {
	c := rand.New(rand.NewSource(1))
	for sectors, steps := range map[int]int{60: 11 + 1, 17: 2*4 + 1 + 2 + 11 + 1} {
		seen := [2]int{}
		for fuse := range steps {
			d, p, sure := halfway(t, sectors)
			put(t, p, 30, 1, 4)
			d.Fuse(fuse)
			want(t, "Commit", p.Commit(), api.ErrDead)
			whole := with(sure, map[int]api.Page{1: pageOf(30), 4: pageOf(31)})
			for _, picks := range manyPicks(c, len(d.Open())) {
				left := d.Copy()
				left.Crash(picks)
				which := wantOneOf(t, "behind the power", opened(t, "behind the power", left.Copy(), sectors, 2), sure, whole)
				seen[which]++
				wantGoesOn(t, "behind the power", left, sectors, [][]api.Page{sure, whole}[which])
			}
		}
		want(t, "it is there, and it is not", seen[0] > 0 && seen[1] > 0, true)
	}
}

// P6.4, P0.2: a checkpoint on its way changes no page, nor does Open; and so of one that is on its way behind such a one.
func TestPowerInCheckpoint(t *testing.T) {
	c := rand.New(rand.NewSource(2))
	for fuse := range 2*4 + 1 + 2 {
		d, p, sure := halfway(t, 60)
		d.Fuse(fuse)
		want(t, "Checkpoint", p.Checkpoint(), api.ErrDead)
		for _, picks := range manyPicks(c, len(d.Open())) {
			left := d.Copy()
			left.Crash(picks)
			for range 4 {
				left.Fuse(c.Intn(2 + 2*4 + 1 + 2))
				if _, e := pool.Open(left, 60, 2); e != api.OK {
					want(t, "Open", e, api.ErrDead)
				}
				left.Crash(manyPicks(c, len(left.Open()))[c.Intn(6)])
				wantOneOf(t, "behind the power", opened(t, "behind the power", left.Copy(), 60, 2), sure)
			}
			wantGoesOn(t, "behind the power", left, 60, sure)
		}
	}
}

// P6.1, P6.4: Format on its way leaves the pool that there was, or a new one, or none.
func TestPowerInFormat(t *testing.T) {
	c := rand.New(rand.NewSource(3))
	was, _, sure := halfway(t, 30)
	for fuse := 0; ; fuse++ {
		d := was.Copy()
		d.Fuse(fuse)
		if pool.Format(d, 30) == api.OK {
			break
		}
		for _, picks := range manyPicks(c, min(len(d.Open()), 9)) {
			left := d.Copy()
			left.Crash(slices.Concat(picks, picks, picks, picks, picks, picks))
			p, e := pool.Open(left.Copy(), 30, 2)
			if e != api.OK {
				want(t, "Open", e, api.ErrNone)
				continue
			}
			which := wantOneOf(t, "behind the power", p, sure, make([]api.Page, 5))
			wantGoesOn(t, "behind the power", left, 30, [][]api.Page{sure, make([]api.Page, 5)}[which])
		}
	}
}

// lives is a pool whose power goes again and again: what was committed; what may have been instead, where it was on its way.
type lives struct {
	t           *testing.T
	c           *rand.Rand
	d           *disk.Disk
	sectors     int
	sure, maybe []api.Page
}

// chancePage is a page by chance: of noughts; made of a number; of whatever bytes; one that stands there already; one like the log's sectors.
func (v *lives) chancePage() (x api.Page) {
	switch v.c.Intn(6) {
	case 0:
	case 1:
		v.c.Read(x[:])
	case 2:
		x = v.sure[v.c.Intn(len(v.sure))]
	case 3:
		for i := range 4 {
			s, _ := v.d.Read(v.c.Intn(1 + v.sectors))
			copy(x[128*i:], s[:])
		}
	default:
		x = pageOf(v.c.Intn(250))
	}
	return x
}

// live opens the pool, and changes it till the power goes, or for a while.
func (v *lives) live() {
	p, e := pool.Open(v.d, v.sectors, 2+v.c.Intn(4))
	if e != api.OK {
		want(v.t, "Open", e, api.ErrDead)
		return
	}
	if wantOneOf(v.t, "opened", p, v.sure, v.maybe) == 1 {
		v.sure = v.maybe
	}
	v.maybe = v.sure
	for range 12 {
		now := slices.Clone(v.sure)
		for range v.c.Intn(5) {
			n := v.c.Intn(len(now))
			now[n] = v.chancePage()
			want(v.t, "Put", p.Put(n, now[n]), api.OK)
		}
		switch v.c.Intn(8) {
		case 0:
			want(v.t, "Abort", p.Abort(), api.OK)
			now = slices.Clone(v.sure)
			e = p.Checkpoint()
		case 1:
			e, now = p.Abort(), slices.Clone(v.sure)
		default:
			if e = p.Commit(); e == api.ErrFull {
				e, now = p.Abort(), slices.Clone(v.sure)
			}
		}
		v.maybe = now
		if e == api.ErrDead {
			return
		}
		want(v.t, "a call", e, api.OK)
		v.sure = now
	}
}

// P6.4, P0.2: wherever the power goes, torn sectors included, however often: there is the last commit that was answered, or the one on its way.
func TestLives(t *testing.T) {
	for seed := range 300 {
		c := rand.New(rand.NewSource(int64(seed)))
		v := &lives{t: t, c: c, sectors: 4 + c.Intn(50)}
		pages := 4 + c.Intn(6)
		v.d = formatted(t, v.sectors, pages)
		v.sure = make([]api.Page, pages)
		v.maybe = v.sure
		for range 25 {
			if c.Intn(8) > 0 {
				v.d.Fuse(c.Intn(2 + c.Intn(120)))
			}
			v.live()
			picks := make([]int, 60)
			few := 1 + c.Intn(8)
			for i := range picks {
				picks[i] = 1
				if c.Intn(8) < few {
					picks[i] = c.Intn(3)
				}
			}
			v.d.Crash(picks)
		}
		if t.Failed() {
			t.Fatalf("seed %d", seed)
		}
	}
}
