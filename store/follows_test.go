package store_test

import (
	"maps"
	"math/rand"
	"slices"
	"testing"

	"coupon/api"
	"coupon/heap"
	"coupon/page"
	"coupon/pool"
	"coupon/store"
	"coupon/tree"
)

// chance is both, and chance; beside it, a store to which just what is done is done, and nothing that is refused. long is how long keys are at least; many how many there are of them.
type chance struct {
	*both
	c          *rand.Rand
	long, many int
	other      *both
	told       map[api.Errno]int
}

// begin is one by chance.
func begin(t *testing.T, seed int) *chance {
	t.Helper()
	c := rand.New(rand.NewSource(int64(seed)))
	pages, sectors := 4+c.Intn(1+c.Intn(120)), 60+c.Intn(340)
	return &chance{both: begun(t, sectors, pages), other: begun(t, sectors, pages), c: c, long: 1 + c.Intn(80), many: 5 + c.Intn(100), told: map[api.Errno]int{}}
}

// key is one by chance.
func (v *chance) key() string {
	n := v.c.Intn(v.many)
	return long(string([]byte{byte(n * 37), byte(n)}), 2+(v.long+n*13)%98)
}

// record is one by chance, of lengths at which something changes, and others.
func (v *chance) record() string {
	size := []int{v.c.Intn(30), v.c.Intn(30), 60 + v.c.Intn(300), 385 + v.c.Intn(30), 400 * (1 + v.c.Intn(4)), v.c.Intn(2500), v.c.Intn(20300)}
	return some(size[v.c.Intn(len(size))], v.c.Intn(250))
}

// step does one call by chance to both.
func (v *chance) step() {
	v.t.Helper()
	e := api.OK
	switch k := v.c.Intn(40); {
	case k < 20:
		key, record := v.key(), v.record()
		if e = v.put(key, record); e == api.OK {
			want(v.t, "Put of the other one", v.other.put(key, record), e)
		}
	case k < 33:
		key := v.key()
		if e = v.drop(key); e == api.OK {
			want(v.t, "Drop of the other one", v.other.drop(key), e)
		}
	case k < 36:
		if e = v.s.Commit(); e == api.OK {
			v.was = maps.Clone(v.is)
			v.other.commit()
		}
	case k < 37:
		v.abort()
		v.other.abort()
	case k < 38:
		if e = v.s.Checkpoint(); e == api.OK {
			want(v.t, "Checkpoint of the other one", v.other.s.Checkpoint(), e)
		}
	default:
		v.frames = 2 + v.c.Intn(9)
		want(v.t, "Crash", v.d.Crash(nil), api.OK)
		v.open()
		v.other.open()
	}
	v.told[e]++
}

// P9.1 to P9.4, P0.6: whatever is called, in whatever order, a store has what it should have; what is refused changes nothing at all.
func TestAsPlain(t *testing.T) {
	told := map[api.Errno]int{}
	for seed := range 100 {
		v := begin(t, seed)
		for i := range 90 {
			v.step()
			if i%5 == 0 {
				v.wantAsPlain("by chance")
			}
			wantList(t, "pages that are not the other one's", changed(t, v.s, pages(t, v.other.s)))
			want(t, "the disk is the other one's", v.d.Same(v.other.d), true)
			if t.Failed() {
				t.Fatalf("seed %d", seed)
			}
		}
		for e, many := range v.told {
			told[e] += many
		}
	}
	for _, e := range []api.Errno{api.OK, api.ErrNone, api.ErrFull, api.ErrBusy, api.ErrLong} {
		want(t, "each is told often", told[e] > 20, true)
		delete(told, e)
	}
	want(t, "no other one is told", len(told), 0)
}

// P9.2: Put is ErrFull just where the heap, or the tree has too few pages.
func TestFullAsParts(t *testing.T) {
	told := map[api.Errno]int{}
	for seed := range 60 {
		v := begin(t, seed)
		for range 40 {
			key, record := v.key(), v.record()
			wanted := putByHand(t, v.both, key, record)
			e := v.put(key, record)
			want(t, "Put", e, wanted)
			told[e]++
			if v.s.Commit() != api.OK {
				v.abort()
			}
			v.was = maps.Clone(v.is)
		}
	}
	want(t, "each is told often", told[api.OK] > 300 && told[api.ErrFull] > 300, true)
}

// putByHand is Put on a copy of the disk, by what stands there.
func putByHand(t *testing.T, v *both, key, record string) api.Errno {
	t.Helper()
	p, e := pool.Open(v.d.Copy(), v.sectors, 2)
	want(t, "pool.Open", e, api.OK)
	h, e := heap.Open(p)
	want(t, "heap.Open", e, api.OK)
	o, e := tree.Open(p, h)
	want(t, "tree.Open", e, api.OK)
	if at, e := o.Get([]byte(key)); e == api.OK {
		_, e = h.Put(at, []byte(record))
		return e
	}
	at, e := h.Lay([]byte(record))
	if e != api.OK {
		return e
	}
	return o.Put([]byte(key), at)
}

// P9.2, P9.4: when all keys are dropped, whatever the order, as many pages can be given out as ahead of it all.
func TestAllIsDropped(t *testing.T) {
	for seed := range 40 {
		v := begin(t, seed)
		room := v.s.Room()
		for range 60 {
			v.put(v.key(), v.record())
		}
		l := v.is.within("", "")
		v.c.Shuffle(len(l), func(i, j int) { l[i], l[j] = l[j], l[i] })
		for _, key := range l {
			want(t, "Drop", v.drop(key), api.OK)
		}
		v.wantAsPlain("all dropped")
		want(t, "Room", v.s.Room(), room)
		want(t, "Len", v.s.Len(), 0)
	}
}

// P9.3, P9.4: a page that was a node may be one of records then, the first one that nodes have, too.
func TestPageOfRecordsThatWasANode(t *testing.T) {
	v := begun(t, 400, 60)
	for i, key := range hundreds("abcde") {
		v.put(key, some(200*i, i))
	}
	x := partsOf(v.s)
	want(t, "what the first leaf's page is", x.h.Uses()[1], 3)
	v.drop(long("a", 100))
	v.drop(long("b", 100))
	want(t, "what it is, dropped", x.h.Uses()[1], 0)
	for i := 0; x.h.Uses()[1] == 0 && i < 20; i++ {
		v.put(string(rune('A'+i)), some(399, i))
		v.wantAsPlain("put")
	}
	want(t, "what it is then", x.h.Uses()[1], 1)
	v.commit()
	v.open()
	v.wantAsPlain("opened again")
}

// spoil spoils pages of the sound store by chance: bytes, whole pages, cells, or one page by another.
func spoil(c *rand.Rand, v *both) {
	x := partsOf(v.s)
	for range 1 + c.Intn(3) {
		n := c.Intn(10)
		p, _ := x.p.Get(n)
		other, _ := x.p.Get(c.Intn(20))
		switch c.Intn(6) {
		case 0:
			p[c.Intn(40)] = byte(c.Intn(12))
		case 1:
			p[511-c.Intn(60)] = byte(c.Intn(256))
		case 2:
			p, _ = page.Link(p, c.Intn(20))
		case 3:
			p = other
		case 4:
			p, _ = page.Take(p, c.Intn(5))
		default:
			p[400+c.Intn(112)] = byte(c.Intn(20))
		}
		x.put(n, p)
	}
}

// P0.6: whatever is wrong with pages, each call ends, and tells an error that it may tell, with nothing beside it, and nothing changed.
func TestSpoiled(t *testing.T) {
	v := sound(t)
	told := map[api.Errno]int{}
	for seed := range 1500 {
		c := rand.New(rand.NewSource(int64(seed)))
		spoil(c, v)
		l := calls(v)
		names := slices.Sorted(maps.Keys(l))
		for range 8 {
			name := names[c.Intn(len(names))]
			was := pages(t, v.s)
			zero, e := l[name]()
			told[e]++
			if e != api.OK {
				want(t, name+": nothing beside the error", zero, true)
				wantList(t, name+": nothing is changed", changed(t, v.s, was))
			}
		}
		if c.Intn(5) == 0 && v.s.Changed() > 0 {
			wantSpoiledOpens(t, v)
		}
		v.abort()
		if t.Failed() {
			t.Fatalf("seed %d", seed)
		}
	}
	for _, e := range []api.Errno{api.OK, api.ErrBytes, api.ErrNone} {
		want(t, "each is told often", told[e] > 100, true)
		delete(told, e)
	}
	want(t, "no other one is told", len(told), 0)
}

// wantSpoiledOpens: where what is spoilt was committed, does Open tell what Check does? (It is on a copy of the store's disk.)
func wantSpoiledOpens(t *testing.T, v *both) {
	t.Helper()
	d := v.d.Copy()
	p, _ := under(t, d, v.sectors)
	mine, _, _ := v.s.Parts()
	for _, n := range mine.Changed() {
		x, _ := mine.Get(n)
		want(t, "Put", p.Put(n, x), api.OK)
	}
	want(t, "Commit", p.Commit(), api.OK)
	if wanted := v.s.Check(); wanted != api.OK {
		wantNoStore(t, "spoilt", d, v.sectors, 3, wanted)
		return
	}
	_, e := store.Open(d, v.sectors, 3)
	want(t, "Open", e, api.OK)
}
