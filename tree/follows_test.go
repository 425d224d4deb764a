package tree_test

import (
	"maps"
	"math/rand"
	"slices"
	"testing"

	"coupon/api"
	"coupon/page"
)

// chance is both, and chance: how long keys are at least, and by how much longer at most; how many there are of them; kept is the plain one as of the last commit.
type chance struct {
	*both
	c                *rand.Rand
	long, more, many int
	kept             *plain
	told             map[api.Errno]int
}

// begin is one by chance.
func begin(t *testing.T, seed int) *chance {
	t.Helper()
	c := rand.New(rand.NewSource(int64(seed)))
	v := &chance{both: begun(t, 5+c.Intn(1+c.Intn(76))), c: c, long: 2 + c.Intn(99), more: 1 + c.Intn(100), many: 10 + c.Intn(300), told: map[api.Errno]int{}}
	want(t, "Commit", v.p.Commit(), api.OK)
	v.kept = v.as.copied()
	return v
}

// key is one by chance, of a number that says it all: how it begins, and how long it is.
func (v *chance) key() string {
	n := v.c.Intn(v.many)
	b := []byte{byte(n * 37), byte(n / 7)}
	for i := range v.long + n*13%v.more - 2 {
		b = append(b, byte(n*i))
	}
	return string(b[:min(len(b), 100)])
}

// there is a key that is there, if there are some.
func (v *chance) there() string {
	l := v.as.keys()
	if len(l) == 0 || v.c.Intn(9) == 0 {
		return v.key()
	}
	return l[v.c.Intn(len(l))].key
}

// step does one call by chance to both; grows says how often a key is put rather than dropped.
func (v *chance) step(grows int) {
	v.t.Helper()
	switch k := v.c.Intn(100); {
	case k < grows:
		v.told[v.put(v.key(), v.c.Intn(200))]++
	case k < 90:
		v.told[v.drop(v.there())]++
	case k < 93:
		if v.as.room() > 0 {
			v.give()
		}
	case k < 96:
		if l := slices.Sorted(maps.Keys(v.as.given)); len(l) > 0 {
			v.back(l[v.c.Intn(len(l))])
		}
	default:
		v.transact(k)
	}
}

// transact commits, aborts, or loses power.
func (v *chance) transact(k int) {
	v.t.Helper()
	switch k {
	case 96, 97:
		want(v.t, "Commit", v.p.Commit(), api.OK)
		v.kept = v.as.copied()
		return
	case 98:
		want(v.t, "Abort", v.p.Abort(), api.OK)
	default:
		want(v.t, "Crash", v.d.Crash(nil), api.OK)
		v.reopen(2 + v.c.Intn(9))
	}
	v.as = v.kept.copied()
}

// P8.1 to P8.4, P0.6: whatever is called, in whatever order, a tree is as the plain one, page by page; it is as of the last commit behind an abort, or a loss of power.
func TestAsPlain(t *testing.T) {
	told, levels := map[api.Errno]int{}, 0
	for seed := range 150 {
		v := begin(t, seed)
		for i := range 150 {
			v.step(75 - 50*(i/100))
			v.wantPages("by chance")
			if i%10 == 0 {
				v.wantAsPlain("by chance")
				v.wantSound()
			}
			if t.Failed() {
				t.Fatalf("seed %d", seed)
			}
		}
		levels = max(levels, v.o.Levels())
		for e, many := range v.told {
			told[e] += many
		}
	}
	for _, e := range []api.Errno{api.OK, api.ErrNone, api.ErrFull} {
		want(t, "each is told often", told[e] > 100, true)
		delete(told, e)
	}
	want(t, "no other one is told", len(told), 0)
	want(t, "there are many levels", levels > 3, true)
}

// wantSound: is each node within its bounds, and what it should be? (It goes over the pages alone.)
func (v *both) wantSound() {
	v.t.Helper()
	var met []int
	var visit func(n, level int, from, below string)
	visit = func(n, level int, from, below string) {
		met = append(met, n)
		x, e := v.p.Get(n)
		want(v.t, "a node's page", e, api.OK)
		want(v.t, "a node's kind", page.Kind(x), 3)
		want(v.t, "a node's next", page.Next(x), 0)
		cells := slices.Collect(maps.Values(maps.Collect(page.All(x))))
		want(v.t, "no slot is empty", len(cells), page.Slots(x))
		b, _ := page.Get(x, 0)
		want(v.t, "a node's level", string(b), string([]byte{byte(level)}))
		want(v.t, "a node is not empty", len(cells) > 1 || level == 0 && len(met) == 1, true)
		for slot := 1; slot < len(cells); slot++ {
			b, _ := page.Get(x, slot)
			k := string(b[1 : 1+int(b[0])])
			want(v.t, "a key is within its bounds", k >= from && (below == "" || k < below) || level > 0 && slot == 1, true)
			want(v.t, "a key is none just where there is no bound", k == "", level > 0 && slot == 1)
			if level > 0 {
				v.visitChild(visit, x, slot, level, from, below)
			}
		}
	}
	visit(v.h.Root(), v.o.Levels()-1, "", "")
	slices.Sort(met)
	wantList(v.t, "the nodes that were met", met, v.as.nodePages()...)
}

// visitChild visits a slot's child.
func (v *both) visitChild(visit func(n, level int, from, below string), x api.Page, slot, level int, from, below string) {
	b, _ := page.Get(x, slot)
	long := int(b[0])
	if long > 0 {
		from = string(b[1 : 1+long])
	}
	if next, e := page.Get(x, slot+1); e == api.OK {
		below = string(next[1 : 1+int(next[0])])
	}
	c := b[1+long:]
	visit(int(c[0])<<24|int(c[1])<<16|int(c[2])<<8|int(c[3]), level-1, from, below)
}

// P8.4: when all keys are dropped, whatever the order, there is one node, and as many pages can be given out as ahead of it all.
func TestAllIsDropped(t *testing.T) {
	for seed := range 60 {
		v := begin(t, seed)
		room := v.h.Room()
		for range 200 {
			v.put(v.key(), v.c.Intn(200))
		}
		l := v.as.keys()
		v.c.Shuffle(len(l), func(i, j int) { l[i], l[j] = l[j], l[i] })
		for _, c := range l {
			want(t, "Drop", v.drop(c.key), api.OK)
			v.wantPages("dropped")
		}
		v.wantAsPlain("all dropped")
		want(t, "Room", v.h.Room(), room)
		want(t, "Levels", v.o.Levels(), 1)
		want(t, "Len", v.o.Len(), 0)
		if t.Failed() {
			t.Fatalf("seed %d", seed)
		}
	}
}

// spoil spoils pages of the sound tree by chance: bytes, whole pages, cells, or one page by another; all pages of it have something then.
func spoil(t *testing.T, c *rand.Rand, v *both) {
	t.Helper()
	for range 1 + c.Intn(3) {
		n := c.Intn(13)
		x, _ := v.p.Get(n)
		other, _ := v.p.Get(c.Intn(14))
		switch c.Intn(6) {
		case 0:
			x[c.Intn(40)] = byte(c.Intn(12))
		case 1:
			x[511-c.Intn(60)] = byte(c.Intn(256))
		case 2:
			x, _ = page.Link(x, c.Intn(14))
		case 3:
			x = other
		case 4:
			x, _ = page.Take(x, c.Intn(5))
		default:
			x = with(x, 1+c.Intn(3), innerCell(hundreds("abcdefghijklmno")[c.Intn(15)], c.Intn(14)))
		}
		v.wreck(n, x)
	}
}

// P0.6: whatever is wrong with pages, each call ends, and tells an error that it may tell, with nothing beside it, and nothing changed.
func TestSpoiled(t *testing.T) {
	v := sound(t)
	told := map[api.Errno]int{}
	for seed := range 1500 {
		c := rand.New(rand.NewSource(int64(seed)))
		spoil(t, c, v)
		l := calls(v)
		names := slices.Sorted(maps.Keys(l))
		for range 12 {
			name := names[c.Intn(len(names))]
			was := pages(t, v.p)
			zero, e := l[name].do()
			told[e]++
			if e != api.OK {
				want(t, name+": nothing beside the error", zero, true)
				wantList(t, name+": nothing is changed", changed(t, v.p, was))
			}
		}
		want(t, "Abort", v.p.Abort(), api.OK)
		if t.Failed() {
			t.Fatalf("seed %d", seed)
		}
	}
	for _, e := range []api.Errno{api.OK, api.ErrBytes, api.ErrNone} {
		want(t, "each is told often", told[e] > 20, true)
		delete(told, e)
	}
	want(t, "no other one is told", len(told), 0)
}
