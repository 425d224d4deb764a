package store_test

import (
	"fmt"
	"maps"
	"math/rand"
	"slices"
	"testing"

	"coupon/api"
	"coupon/disk"
	"coupon/store"
)

// manyPicks are what the power may leave of so many open sectors, each written once: all alike; one unlike the others; by chance.
func manyPicks(c *rand.Rand, open int) [][]int {
	var l [][]int
	for all := range 3 {
		l = append(l, slices.Repeat([]int{all}, open))
		picks := slices.Repeat([]int{all}, open)
		if open > 0 {
			picks[c.Intn(open)] = c.Intn(3)
		}
		l = append(l, picks)
	}
	for range 5 {
		picks := make([]int, open)
		for i := range picks {
			picks[i] = c.Intn(3)
		}
		l = append(l, picks)
	}
	return l
}

// records are what a store has.
func records(s *store.Store) plain {
	x := plain{}
	for key, record := range s.All(nil, nil) {
		x[string(key)] = string(record)
	}
	return x
}

// wantOneOf opens a disk's store; has it, sound, what one of these has? It is told which.
func wantOneOf(t *testing.T, what string, d *disk.Disk, sectors int, of ...plain) (*store.Store, int) {
	t.Helper()
	s, e := store.Open(d, sectors, 2)
	if e != api.OK {
		t.Fatalf("%s: Open answers %v", what, e)
	}
	want(t, what+": Check", s.Check(), api.OK)
	is := records(s)
	want(t, what+": Len", s.Len(), len(is))
	at := slices.IndexFunc(of, func(x plain) bool { return maps.Equal(x, is) })
	if at < 0 {
		t.Fatalf("%s: it has the keys %q, which is none of %d", what, is.within("", ""), len(of))
	}
	return s, at
}

// wantGoesOn: does a disk's store, of these records, commit what is put and dropped, and checkpoint, and last?
func wantGoesOn(t *testing.T, what string, d *disk.Disk, sectors int, x plain) {
	t.Helper()
	v := &both{t: t, d: d, sectors: sectors, frames: 3, was: x}
	v.open()
	for i := range 3 {
		v.put("n", fmt.Sprint("gone on ", i))
		v.drop("a")
		v.commit()
		want(t, what+": Crash", d.Crash(nil), api.OK)
		v.open()
		v.wantAsPlain(what + ", gone on")
	}
	want(t, what+": Checkpoint", v.s.Checkpoint(), api.OK)
	v.open()
	v.wantAsPlain(what + ", gone on and written")
}

// halfway is a store that has records in their places, and others in the log.
func halfway(t *testing.T, sectors int) *both {
	t.Helper()
	v := begun(t, sectors, 16)
	v.put("a", some(450, 1))
	v.put("b", "b")
	v.commit()
	want(t, "Checkpoint", v.s.Checkpoint(), api.OK)
	v.put("c", some(420, 2))
	v.commit()
	return v
}

// P9.4, P0.2: a commit on its way, with a checkpoint ahead of it and without, is there whole, or not at all.
func TestPowerInCommit(t *testing.T) {
	c := rand.New(rand.NewSource(1))
	for _, sectors := range []int{100, 40} {
		seen := [2]int{}
		for fuse, done := 0, false; !done && !t.Failed(); fuse++ {
			v := halfway(t, sectors)
			v.put("a", some(900, 3))
			v.drop("b")
			want(t, "Fuse", v.d.Fuse(fuse), api.OK)
			if done = v.s.Commit() == api.OK; done {
				continue
			}
			want(t, "Commit", v.s.Commit(), api.ErrDead)
			for _, picks := range manyPicks(c, len(v.d.Open())) {
				left := v.d.Copy()
				left.Crash(picks)
				_, which := wantOneOf(t, "behind the power", left.Copy(), sectors, v.was, v.is)
				seen[which]++
				wantGoesOn(t, "behind the power", left, sectors, maps.Clone([]plain{v.was, v.is}[which]))
			}
		}
		want(t, "it is there, and it is not", seen[0] > 100 && seen[1] > 0, true)
	}
}

// P9.4, P0.2: a checkpoint on its way changes no record, nor does Open, and so of one that is on its way behind such a one.
func TestPowerInCheckpoint(t *testing.T) {
	c := rand.New(rand.NewSource(2))
	for fuse, done := 0, false; !done && !t.Failed(); fuse++ {
		v := halfway(t, 100)
		want(t, "Fuse", v.d.Fuse(fuse), api.OK)
		if done = v.s.Checkpoint() == api.OK; done {
			continue
		}
		for _, picks := range manyPicks(c, len(v.d.Open())) {
			left := v.d.Copy()
			left.Crash(picks)
			for range 4 {
				left.Fuse(c.Intn(30))
				if _, e := store.Open(left, 100, 2); e != api.OK {
					want(t, "Open", e, api.ErrDead)
				}
				left.Crash(manyPicks(c, len(left.Open()))[c.Intn(11)])
				wantOneOf(t, "behind the power", left.Copy(), 100, v.was)
			}
			wantGoesOn(t, "behind the power", left, 100, maps.Clone(v.was))
		}
	}
}

// P9.1, P9.4: Format on its way leaves the store that there was, or a new one, or none; then it can be begun.
func TestPowerInFormat(t *testing.T) {
	c := rand.New(rand.NewSource(3))
	seen := [3]int{}
	for fuse, done := 0, false; !done && !t.Failed(); fuse++ {
		v := halfway(t, 30)
		want(t, "Fuse", v.d.Fuse(fuse), api.OK)
		if done = store.Format(v.d, 30) == api.OK; done {
			continue
		}
		for _, picks := range manyPicks(c, len(v.d.Open())) {
			left := v.d.Copy()
			left.Crash(picks)
			was := left.Copy()
			s, e := store.Open(left, 30, 2)
			if e == api.OK {
				_, which := wantOneOf(t, "behind the power", left, 30, v.was, plain{})
				seen[which]++
				continue
			}
			want(t, "there is no store", s == nil, true)
			want(t, "Open", e == api.ErrNone || e == api.ErrBytes, true)
			wantUnchanged(t, "Open of none", left, was)
			seen[2]++
			want(t, "Format", store.Format(left, 30), api.OK)
			wantOneOf(t, "formatted again", left, 30, plain{})
		}
	}
	want(t, "there is the old one, a new one, none", min(seen[0], seen[1], seen[2]) > 0, true)
}

// lives is a store whose power goes again and again: what was committed; what may have been instead, where it was on its way.
type lives struct {
	t           *testing.T
	c           *rand.Rand
	d           *disk.Disk
	sectors     int
	sure, maybe plain
}

// change puts, or drops, something by chance.
func (v *lives) change(s *store.Store, now plain) {
	key := string([]byte{'k', byte(v.c.Intn(12))})
	if v.c.Intn(3) == 0 {
		key = long(key, 90)
	}
	if v.c.Intn(4) == 0 {
		_, is := now[key]
		want(v.t, "Drop", s.Drop([]byte(key)) == api.OK, is)
		delete(now, key)
		return
	}
	record := some(v.c.Intn(1+v.c.Intn(1500)), v.c.Intn(250))
	if e := s.Put([]byte(key), []byte(record)); e != api.ErrFull {
		want(v.t, "Put", e, api.OK)
		now[key] = record
	}
}

// live opens the store, and changes it till the power goes, or for a while.
func (v *lives) live() {
	s, e := store.Open(v.d, v.sectors, 2+v.c.Intn(4))
	if e != api.OK {
		want(v.t, "Open", e, api.ErrDead)
		return
	}
	want(v.t, "Check", s.Check(), api.OK)
	is := records(s)
	if !maps.Equal(is, v.sure) && !maps.Equal(is, v.maybe) {
		v.t.Fatalf("opened: it has the keys %q; wanted: %q, or %q", is.within("", ""), v.sure.within("", ""), v.maybe.within("", ""))
	}
	v.sure, v.maybe = is, is
	for range 10 {
		now := maps.Clone(v.sure)
		for range v.c.Intn(5) {
			v.change(s, now)
		}
		if !v.end(s, now) {
			return
		}
	}
}

// end ends a transaction; does the disk live?
func (v *lives) end(s *store.Store, now plain) bool {
	e := api.OK
	switch v.c.Intn(7) {
	case 0:
		want(v.t, "Abort", s.Abort(), api.OK)
		now, e = v.sure, s.Checkpoint()
	case 1:
		now, e = v.sure, s.Abort()
	default:
		if e = s.Commit(); e == api.ErrFull {
			now, e = v.sure, s.Abort()
		}
	}
	v.maybe = now
	if e == api.ErrDead {
		want(v.t, "Dead", s.Dead(), true)
		return false
	}
	want(v.t, "a call", e, api.OK)
	v.sure = now
	return true
}

// P9.4, P0.2: wherever the power goes, torn sectors included, however often: what is opened is sound, and has what the last commit had that was answered, or the one on its way.
func TestLives(t *testing.T) {
	for seed := range 120 {
		c := rand.New(rand.NewSource(int64(seed)))
		v := &lives{t: t, c: c, sectors: 25 + c.Intn(100), sure: plain{}, maybe: plain{}}
		v.d = littered(t, v.sectors, 10+c.Intn(25))
		want(t, "Format", store.Format(v.d, v.sectors), api.OK)
		for range 15 {
			if c.Intn(8) > 0 {
				v.d.Fuse(c.Intn(2 + c.Intn(200)))
			}
			v.live()
			picks := make([]int, 80)
			few := 1 + c.Intn(8)
			for i := range picks {
				picks[i] = 1
				if c.Intn(8) < few {
					picks[i] = c.Intn(3)
				}
			}
			v.d.Crash(picks)
			if t.Failed() {
				t.Fatalf("seed %d", seed)
			}
		}
	}
}
