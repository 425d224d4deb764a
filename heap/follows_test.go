package heap_test

import (
	"math/rand"
	"slices"
	"testing"

	"coupon/api"
	"coupon/pool"
)

// chance is both, and chance; kept is the plain one as of the last commit.
type chance struct {
	*both
	c             *rand.Rand
	kept          *plain
	full, refused int
}

// record is one by chance, of lengths at which something changes, and others.
func (v *chance) record() string {
	long := []int{v.c.Intn(30), v.c.Intn(30), 60 + v.c.Intn(300), 385 + v.c.Intn(30), 395 + v.c.Intn(10), 400 * (1 + v.c.Intn(4)), v.c.Intn(2500), v.c.Intn(20500)}
	return some(long[v.c.Intn(len(long))], v.c.Intn(250))
}

// place is one by chance, of a record mostly.
func (v *chance) place() api.Place {
	l := v.as.pairs()
	if len(l) == 0 || v.c.Intn(12) == 0 {
		return api.Place{Page: v.c.Intn(v.as.pages+2) - 1, Slot: v.c.Intn(6) - 1}
	}
	return l[v.c.Intn(len(l))].at
}

// step does one call by chance to both.
func (v *chance) step() {
	v.t.Helper()
	e := api.OK
	switch k := v.c.Intn(40); {
	case k < 12:
		r := v.record()
		at, is := v.h.Lay([]byte(r))
		var wanted api.Place
		wanted, e = v.as.lay(r)
		want(v.t, "Lay", at, wanted)
		want(v.t, "Lay's error", is, e)
	case k < 20:
		at, r := v.place(), v.record()
		to, is := v.h.Put(at, []byte(r))
		var wanted api.Place
		wanted, e = v.as.put(at, r)
		want(v.t, "Put", to, wanted)
		want(v.t, "Put's error", is, e)
	case k < 29:
		at := v.place()
		e = v.as.take(at)
		want(v.t, "Take", v.h.Take(at), e)
	case k < 32:
		v.give()
	case k < 35:
		n := v.c.Intn(v.as.pages+2) - 1
		v.mark(n)
		e = v.as.giveBack(n)
		want(v.t, "Back", v.h.Back(n), e)
	case k < 36:
		n := v.c.Intn(v.as.pages+2) - 1
		e = v.as.rooted(n)
		want(v.t, "SetRoot", v.h.SetRoot(n), e)
	default:
		v.transact(k)
	}
	v.count(e)
}

// mark changes a page that is the caller's.
func (v *chance) mark(n int) {
	if _, is := v.as.given[n]; is {
		x := slotted(3, v.c.Intn(1000), "", some(1+v.c.Intn(50), n))
		want(v.t, "Put", v.p.Put(n, x), api.OK)
		v.as.given[n] = x
	}
}

// transact commits, aborts, or loses power.
func (v *chance) transact(k int) {
	v.t.Helper()
	switch k {
	case 36, 37:
		want(v.t, "Commit", v.p.Commit(), api.OK)
		v.kept = v.as.copied()
		return
	case 38:
		want(v.t, "Abort", v.p.Abort(), api.OK)
	default:
		v.d.Crash(nil)
		p, e := pool.Open(v.d, 400, 2+v.c.Intn(9))
		want(v.t, "pool.Open", e, api.OK)
		v.p = p
		v.open()
	}
	v.as = v.kept.copied()
}

// count counts what was refused.
func (v *chance) count(e api.Errno) {
	if e == api.ErrFull {
		v.full++
	} else if e != api.OK {
		v.refused++
	}
}

// P7.1 to P7.4, P0.6: whatever is called, in whatever order, a heap is as the plain one, page by page; it is as of the last commit behind an abort, or a loss of power.
func TestAsPlain(t *testing.T) {
	full, refused := 0, 0
	for seed := range 120 {
		c := rand.New(rand.NewSource(int64(seed)))
		v := &chance{both: begun(t, 4+c.Intn(1+c.Intn(56))), c: c}
		want(t, "Commit", v.p.Commit(), api.OK)
		v.kept = v.as.copied()
		for range 90 {
			v.step()
			v.wantAsPlain("by chance")
			if t.Failed() {
				t.Fatalf("seed %d", seed)
			}
		}
		full += v.full
		refused += v.refused
	}
	want(t, "much is refused", full > 100 && refused > 100, true)
}

// P7.4: when all is taken out, and back, as many pages can be given out as ahead of it all, each one once, whatever the order.
func TestAllIsBack(t *testing.T) {
	for seed := range 60 {
		v := &chance{both: begun(t, 40), c: rand.New(rand.NewSource(int64(seed)))}
		for range 60 {
			v.h.Lay([]byte(v.record()))
			if v.c.Intn(3) == 0 {
				v.h.Give()
			}
		}
		want(t, "there is little room", v.h.Room() < 5, true)
		v.empty()
		want(t, "Room", v.h.Room(), 39)
		wantPairs(t, "All", v.h.All())
		met := []int{0}
		for range 39 {
			n, e := v.h.Give()
			want(t, "Give", e, api.OK)
			met = append(met, n)
		}
		slices.Sort(met)
		want(t, "how many pages were given out", len(slices.Compact(met)), 40)
	}
}

// empty takes out all records, and all pages, in an order by chance.
func (v *chance) empty() {
	v.t.Helper()
	var calls []func() api.Errno
	for at := range v.h.All() {
		calls = append(calls, func() api.Errno { return v.h.Take(at) })
	}
	for n, use := range v.h.Uses() {
		if use == 3 {
			calls = append(calls, func() api.Errno { return v.h.Back(n) })
		}
	}
	v.c.Shuffle(len(calls), func(i, j int) { calls[i], calls[j] = calls[j], calls[i] })
	for _, call := range calls {
		want(v.t, "Take, or Back", call(), api.OK)
	}
}
