package pool_test

import (
	"math/rand"
	"slices"
	"testing"

	"coupon/api"
	"coupon/disk"
	"coupon/pool"
)

// pair is a pool and the plain one, each on a disk of its own.
type pair struct {
	t  *testing.T
	c  *rand.Rand
	d  *disk.Disk
	is *pool.Pool
	as *plain
}

// open opens both.
func (v *pair) open(o *disk.Disk, sectors, frames int) {
	v.t.Helper()
	v.is = opened(v.t, "both", v.d, sectors, frames)
	v.as = plainOpen(v.t, o, sectors, frames)
}

// wantAsPlain: is the pool as the plain one, and its disk as that one's, whatever the power leaves?
func (v *pair) wantAsPlain() {
	v.t.Helper()
	want(v.t, "Dead", v.is.Dead(), v.as.dead)
	if !v.as.dead {
		dirty := v.as.those(func(n int) bool { return v.as.dirty[n] })
		wantLook(v.t, "as the plain one", v.is, look{v.as.changed(), dirty, v.as.asked, len(v.as.is), v.as.log.Room(), false})
	}
	want(v.t, "the disks are the same", v.d.Same(v.as.d), true)
	want(v.t, "both are dead, or none is", v.d.Dead(), v.as.d.Dead())
	picks := make([]int, 30)
	for i := range picks {
		picks[i] = v.c.Intn(3)
	}
	one, other := v.d.Copy(), v.as.d.Copy()
	one.Crash(picks)
	other.Crash(picks)
	want(v.t, "the disks are the same, the power gone", one.Same(other), true)
}

// told is what the plain one answers, but where it is dead.
func (v *pair) told(plain func() api.Errno) api.Errno {
	if v.as.dead {
		return api.ErrDead
	}
	return plain()
}

// call does one call by chance to both.
func (v *pair) call() {
	n := v.c.Intn(len(v.as.is))
	switch k := v.c.Intn(40); {
	case k < 12:
		var wanted api.Page
		e := v.told(func() api.Errno { wanted = v.as.get(n); return api.OK })
		x, is := v.is.Get(n)
		want(v.t, "Get's error", is, e)
		wantPage(v.t, "Get", x, wanted)
	case k < 27:
		x := pageOf(v.c.Intn(250))
		if v.c.Intn(3) == 0 {
			x = v.as.was[n]
		}
		want(v.t, "Put", v.is.Put(n, x), v.told(func() api.Errno { v.as.put(n, x); return api.OK }))
	case k < 33:
		want(v.t, "Commit", v.is.Commit(), v.told(v.as.commit))
	case k < 35:
		want(v.t, "Abort", v.is.Abort(), v.told(func() api.Errno { v.as.is = slices.Clone(v.as.was); return api.OK }))
	case k < 37:
		want(v.t, "Checkpoint", v.is.Checkpoint(), v.told(v.as.checkpoint))
	case k < 38:
		wrong := noPages(len(v.as.is))
		wantNot(v.t, "no page", v.is, wrong[v.c.Intn(len(wrong))], v.told(func() api.Errno { return api.ErrArg }))
	case k < 39:
		fuse := v.c.Intn(60)
		v.d.Fuse(fuse)
		v.as.d.Fuse(fuse)
	default:
		v.life()
	}
}

// life ends by a loss of power, and another one begins.
func (v *pair) life() {
	picks := make([]int, v.c.Intn(30))
	for i := range picks {
		picks[i] = v.c.Intn(7) - 3
	}
	v.d.Crash(picks)
	v.as.d.Crash(picks)
	v.open(v.as.d, v.as.sectors, 2+v.c.Intn(6))
}

// P6.1 to P6.3, P0.6: whatever is called, in whatever order, a pool is as the plain one, and so is its disk.
func TestAsPlain(t *testing.T) {
	commits, checkpoints := 0, 0
	for seed := range 200 {
		c := rand.New(rand.NewSource(int64(seed)))
		v := &pair{t: t, c: c}
		sectors := 4 + c.Intn(60)
		v.d = formatted(t, sectors, 4+c.Intn(8))
		v.open(v.d.Copy(), sectors, 2+c.Intn(6))
		for range 150 {
			v.call()
			v.wantAsPlain()
			if t.Failed() {
				t.Fatalf("seed %d", seed)
			}
		}
		commits += v.as.commits
		checkpoints += v.as.checkpoints
	}
	want(t, "there are many commits, and checkpoints", commits > 100 && checkpoints > 100, true)
}
