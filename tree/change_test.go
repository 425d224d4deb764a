package tree_test

import (
	"slices"
	"strings"
	"testing"

	"coupon/api"
)

// leafCell is the cell of a leaf.
func leafCell(key string, at api.Place) string { return plainCell{key: key, at: at}.bytes(0) }

// innerCell is the cell of another node.
func innerCell(key string, child int) string { return plainCell{key: key, child: child}.bytes(1) }

// wantPage: is a page of the pool so?
func (v *both) wantPage(what string, n int, wanted api.Page) {
	v.t.Helper()
	x, e := v.p.Get(n)
	want(v.t, what+": the page's error", e, api.OK)
	want(v.t, what, x, wanted)
}

// wantNodes: are there so many, of so many levels, with the root on this page?
func (v *both) wantNodes(what string, many, levels, root int) {
	v.t.Helper()
	l, _ := v.o.Check()
	want(v.t, what+": the nodes", len(l), many)
	want(v.t, what+": the levels", v.o.Levels(), levels)
	want(v.t, what+": the root", v.h.Root(), root)
}

// P8.2: keys stand in a leaf's slots, behind its level, by rising keys, each with its length, and its value behind it.
func TestPut(t *testing.T) {
	v := begun(t, 9)
	for i, key := range []string{"b", "\x00", "ab", "\xff", "a", long("a", 100), "abc", "\x7f\x80", "\xff\x00"} {
		want(t, "Put", v.put(key, i), api.OK)
		v.wantAsPlain("put")
	}
	v.wantPage("the leaf", 1, slotted(3, 0, "\x00",
		"\x01\x00\x00\x00\x01\x33\x01\x03",
		"\x01a\x00\x00\x01\x48\x04\x0c",
		"\x64"+long("a", 100)+"\x00\x00\x01\x4f\x05\x0f",
		"\x02ab\x00\x00\x01\x3a\x02\x06",
		"\x03abc\x00\x00\x01\x56\x06\x12",
		"\x01b\x00\x00\x01\x2c\x00\x00",
		"\x02\x7f\x80\x00\x00\x01\x5d\x07\x15",
		"\x01\xff\x00\x00\x01\x41\x03\x09",
		"\x02\xff\x00\x00\x00\x01\x64\x08\x18"))
	for _, key := range []string{"c", "aa", "\x01", "\x00\x00", "\xfe", long("a", 99), long("b", 100), "ac", "abcd"} {
		wantNot(t, "another key", v.o, key, api.ErrNone)
	}
}

// P8.2: the document's example.
func TestExample(t *testing.T) {
	v := begun(t, 9)
	for i, key := range []string{"a", "c", "b"} {
		v.put(key, i)
	}
	wantKeys(t, "All from b on", v.o.All([]byte("b"), nil), "b", "c")
	want(t, "Drop b", v.drop("b"), api.OK)
	wantNot(t, "Get b", v.o, "b", api.ErrNone)
	v.wantAsPlain("the example")
}

// P8.2: a key that is there has another value then, where the leaf has no room left, too.
func TestPutAgain(t *testing.T) {
	v := of(t, 30, hundreds("abcd")...)
	for i, key := range hundreds("dbca") {
		v.put(key, 50+i)
		v.wantAsPlain("another value")
		v.wantNodes("another value", 1, 1, 1)
	}
	v.put(long("b", 100), 51)
	v.wantAsPlain("the same value")
	for i, key := range hundreds("efghijklmnopqrstuvwxyz") {
		v.put(key, i)
	}
	for i, key := range hundreds("zyaxbw") {
		was := v.o.Len()
		v.put(key, 70+i)
		want(t, "Len", v.o.Len(), was)
		v.wantAsPlain("another value, of more levels")
	}
	v.fill(0)
	for i, key := range hundreds("azby") {
		want(t, "Put without a page left", v.put(key, 90+i), api.OK)
	}
	v.wantAsPlain("another value, without a page left")
}

// P8.2: the shortest and the longest keys, the least and the greatest values.
func TestPutEdges(t *testing.T) {
	v := begun(t, 9)
	for _, key := range []string{"\x00", "a", long("a", 99), long("a", 100), strings.Repeat("\x00", 100), strings.Repeat("\xff", 100)} {
		for _, at := range []api.Place{{}, {Page: 1<<31 - 1, Slot: 65535}, {Page: 1<<31 - 1}, {Slot: 65535}, {Page: 1 << 24, Slot: 256}, {Page: 65536, Slot: 255}} {
			v := begun(t, 9)
			want(t, "the plain Put", v.as.put(key, at), api.OK)
			want(t, "Put", v.o.Put([]byte(key), at), api.OK)
			v.wantAsPlain("at the edges")
		}
	}
	v.put("a", 1)
	for _, key := range noKeys() {
		v.wantRefused("Put of no key", v.o.Put([]byte(key), value(1)), api.ErrArg)
		v.wantRefused("Drop of no key", v.o.Drop([]byte(key)), api.ErrArg)
		wantNot(t, "no key", v.o, key, api.ErrArg)
	}
	for _, at := range noValues() {
		v.wantRefused("Put of no value", v.o.Put([]byte("a"), at), api.ErrArg)
		v.wantRefused("Put of no value, of a new key", v.o.Put([]byte("b"), at), api.ErrArg)
		v.wantRefused("Put of neither", v.o.Put(nil, at), api.ErrArg)
	}
}

// P8.2: what is handed in stays the caller's, and is not kept.
func TestKeyIsTheCallers(t *testing.T) {
	v := begun(t, 9)
	key := append(make([]byte, 0, 9), "ab"...)
	v.as.put("ab", value(1))
	want(t, "Put", v.o.Put(key, value(1)), api.OK)
	want(t, "the key", string(key[:4]), "ab\x00\x00")
	copy(key, "zz")
	v.wantAsPlain("the caller changed his key")
	copy(key, "ab")
	_, e := v.o.Get(key)
	want(t, "Get", e, api.OK)
	v.as.drop("ab")
	want(t, "Drop", v.o.Drop(key), api.OK)
	want(t, "the key", string(key[:4]), "ab\x00\x00")
	v.wantAsPlain("dropped")
}

// P8.2: a leaf whose cells just fit is not split; with a byte more it is.
func TestRoom(t *testing.T) {
	keys := []string{long("a", 88), long("b", 88), long("c", 88), long("d", 88)}
	v := of(t, 9, keys...)
	v.put(long("e", 88), 4) // 12 + 4 + 1 + 5 * (4 + 1 + 88 + 6) = 512
	v.wantAsPlain("just full")
	v.wantNodes("just full", 1, 1, 1)
	v = of(t, 9, keys...)
	v.put(long("e", 89), 4)
	v.wantAsPlain("a byte more")
	v.wantNodes("a byte more", 3, 2, 3)
	v.wantPage("the root", 3, slotted(3, 0, "\x01", innerCell("", 1), innerCell(long("c", 88), 2)))
}

// rising are keys of these lengths, by their order.
func rising(lengths ...int) []string {
	var l []string
	for i, many := range lengths {
		l = append(l, long(string(rune('A'+i)), many))
	}
	return l
}

// times are so many of the same length.
func times(many, length int) []int { return slices.Repeat([]int{length}, many) }

// P8.2: a leaf is split where its first cells make up not more than half of the bytes of all of them; slots are no bytes of theirs.
func TestSplitWhere(t *testing.T) {
	for what, x := range map[string]struct {
		lengths []int
		stay    int
	}{
		"all alike, 228 bytes of 456":       {times(12, 31), 6},
		"228 of 455":                        {append(times(11, 31), 30), 5},
		"228 of 457":                        {append(times(11, 31), 32), 6},
		"227 of 455":                        {slices.Concat(times(5, 31), []int{30}, times(6, 31)), 6},
		"229 of 457":                        {slices.Concat(times(5, 31), []int{32}, times(6, 31)), 5},
		"an odd number, 214 bytes of 535":   {times(5, 100), 2},
		"short ones first, 200 of 414":      {slices.Concat(times(25, 1), times(2, 100)), 25},
		"short ones last, 107 of 398":       {slices.Concat(times(2, 100), times(23, 1)), 1},
		"a long one in between, 160 of 371": {slices.Concat(times(20, 1), []int{100}, times(13, 1)), 20},
	} {
		keys := rising(x.lengths...)
		v := of(t, 9, keys[:len(keys)-1]...)
		v.wantNodes(what+", ahead of the last one", 1, 1, 1)
		v.put(keys[len(keys)-1], 90)
		v.wantAsPlain(what)
		v.wantNodes(what, 3, 2, 3)
		v.wantPage(what, 3, slotted(3, 0, "\x01", innerCell("", 1), innerCell(keys[x.stay], 2)))
	}
}

// P8.2: so is one that is split by a key ahead of all, in the middle, or behind all.
func TestSplitBy(t *testing.T) {
	c := long("c", 98)
	for last, right := range map[string]string{"A": "b", "aa": "b", "bb": "bb", "cc": "c", "dd": "c"} {
		v := of(t, 9, append(hundreds("abd"), c)...)
		v.put(long(last, 99), 9)
		v.wantAsPlain("split by " + last)
		v.wantNodes("split by "+last, 3, 2, 3)
		is := long(right, map[string]int{"b": 100, "bb": 99, "c": 98}[right])
		v.wantPage("split by "+last, 3, slotted(3, 0, "\x01", innerCell("", 1), innerCell(is, 2)))
	}
}

// P8.2: a node that is no leaf is split, too: its new one's first key goes up, and is gone from it; above a root that was split comes a new one. Pages are given out from the leaf upwards.
func TestSplitInner(t *testing.T) {
	v := begun(t, 40)
	k := hundreds("abcdefghijklm")
	for i, key := range k[:11] {
		v.put(key, i)
		v.wantAsPlain("put")
	}
	v.wantNodes("five leaves", 6, 2, 3)
	v.wantPage("the root", 3, slotted(3, 0, "\x01", innerCell("", 1), innerCell(k[2], 2), innerCell(k[4], 4), innerCell(k[6], 5), innerCell(k[8], 6)))
	v.wantPage("the last leaf", 6, slotted(3, 0, "\x00", leafCell(k[8], value(8)), leafCell(k[9], value(9)), leafCell(k[10], value(10))))
	v.put(k[11], 11)
	v.wantNodes("five leaves, the last one full", 6, 2, 3)
	v.put(k[12], 12)
	v.wantAsPlain("put")
	v.wantNodes("six leaves", 9, 3, 9)
	v.wantPage("the leaf", 6, slotted(3, 0, "\x00", leafCell(k[8], value(8)), leafCell(k[9], value(9))))
	v.wantPage("the new leaf", 7, slotted(3, 0, "\x00", leafCell(k[10], value(10)), leafCell(k[11], value(11)), leafCell(k[12], value(12))))
	v.wantPage("the node that was the root", 3, slotted(3, 0, "\x01", innerCell("", 1), innerCell(k[2], 2), innerCell(k[4], 4)))
	v.wantPage("the new node", 8, slotted(3, 0, "\x01", innerCell("", 5), innerCell(k[8], 6), innerCell(k[10], 7)))
	v.wantPage("the root", 9, slotted(3, 0, "\x02", innerCell("", 3), innerCell(k[6], 8)))
}

// P8.2: where such a node is split, its first cell, that has no key, is counted as it is: 5 bytes.
func TestSplitInnerWhere(t *testing.T) {
	for long, stay := range map[int]int{100: 3, 58: 4, 39: 6} {
		v := begun(t, 80)
		for i := 0; v.o.Levels() < 3; i++ {
			v.put(strings.Repeat(string(rune('!'+i)), long), i)
			v.wantAsPlain("put, all of one length")
		}
		first := v.as.nodes[v.as.nodes[v.as.root].cells[0].child]
		want(t, "how many stay, where all are alike but the first one", len(first.cells), stay)
	}
}

// P8.2: a new node is on a page that came back, if there is one.
func TestSplitOnBack(t *testing.T) {
	v := begun(t, 20)
	for range 5 {
		v.give()
	}
	for _, n := range []int{4, 2, 6} {
		v.back(n)
	}
	for i, key := range hundreds("abcdefghi") {
		v.put(key, i)
		v.wantAsPlain("put")
	}
	v.wantNodes("five pages", 5, 2, 2)
}

// P8.2: where the heap has fewer pages than new nodes need, Put is ErrFull, and nothing is changed; with just as many it is done.
func TestPutFull(t *testing.T) {
	letters := "abcdefghijklmnopqrstuvwxyzABCDEFGHIJKLMNOPQRSTUVWXYZ"
	told := map[int]int{}
	for many := range len(letters) {
		v := of(t, 60, hundreds(letters[:many])...)
		w := v.as.copied()
		key := hundreds(letters[many : many+1])[0]
		w.put(key, value(99))
		need := len(w.nodes) - len(v.as.nodes)
		told[need]++
		if need == 0 {
			continue
		}
		for room := need - 1; room >= 0; room-- {
			v.fill(room)
			v.wantRefused("Put of too few pages", v.o.Put([]byte(key), value(99)), api.ErrFull)
			want(t, "the plain Put of too few pages", v.as.put(key, value(99)), api.ErrFull)
		}
		for n := range v.as.given {
			if v.as.room() < need {
				v.back(n)
			}
		}
		want(t, "Put of just as many", v.put(key, 99), api.OK)
		v.wantAsPlain("Put of just as many")
		want(t, "Room", v.h.Room(), 0)
	}
	for need := range 4 {
		want(t, "so many are needed at least once", told[need] > 0, true)
	}
}

// P8.2: Drop takes just the key's cell out of its leaf.
func TestDrop(t *testing.T) {
	v := of(t, 9, "a", "b", "c", "d")
	for i, key := range []string{"b", "d", "a", "c"} {
		want(t, "Drop", v.drop(key), api.OK)
		v.wantAsPlain("dropped")
		wantNot(t, "dropped", v.o, key, api.ErrNone)
		v.wantRefused("Drop, twice", v.o.Drop([]byte(key)), api.ErrNone)
		want(t, "Len", v.o.Len(), 3-i)
	}
	v.wantPage("the leaf that is the root stays", 1, slotted(3, 0, "\x00"))
	v.wantRefused("Drop where no key is", v.o.Drop([]byte("a")), api.ErrNone)
	v.put("a", 1)
	v.wantAsPlain("put again")
}

// P8.2: Drop, and Get, of a key that there is not, is ErrNone, wherever it would be.
func TestDropNone(t *testing.T) {
	v := of(t, 40, hundreds("bdfhjlnprtvxz")...)
	v.wantNodes("of three levels", 9, 3, 9)
	for _, key := range append(hundreds("acegikmoqsuwyA{"), "a", "b", "z", "\x00", long("b", 99), long("z", 99), "zz") {
		v.wantRefused("Drop of no such key", v.o.Drop([]byte(key)), api.ErrNone)
		wantNot(t, "no such key", v.o, key, api.ErrNone)
	}
}

// P8.2: a leaf that is empty is gone, with its cell above; where that was the first one, the next one's key is none then.
func TestDropLeaf(t *testing.T) {
	k := hundreds("abcdefgh")
	for what, x := range map[string]struct {
		keys []string
		root api.Page
	}{
		"the first one":     {k[0:2], slotted(3, 0, "\x01", innerCell("", 2), innerCell(k[4], 4), innerCell(k[6], 5))},
		"the second one":    {k[2:4], slotted(3, 0, "\x01", innerCell("", 1), innerCell(k[4], 4), innerCell(k[6], 5))},
		"the third one":     {k[4:6], slotted(3, 0, "\x01", innerCell("", 1), innerCell(k[2], 2), innerCell(k[6], 5))},
		"the last one":      {k[6:8], slotted(3, 0, "\x01", innerCell("", 1), innerCell(k[2], 2), innerCell(k[4], 4))},
		"the first two":     {k[0:4], slotted(3, 0, "\x01", innerCell("", 4), innerCell(k[6], 5))},
		"the last two":      {k[4:8], slotted(3, 0, "\x01", innerCell("", 1), innerCell(k[2], 2))},
		"two in the middle": {k[2:6], slotted(3, 0, "\x01", innerCell("", 1), innerCell(k[6], 5))},
	} {
		v := of(t, 20, append(slices.Clone(k), long("i", 100))...)
		v.drop(long("i", 100))
		v.wantNodes(what+", ahead of it", 5, 2, 3)
		for _, key := range x.keys {
			v.drop(key)
			v.wantAsPlain(what)
		}
		v.wantPage(what, 3, x.root)
		for i, key := range x.keys {
			v.put(key, 70+i)
			v.wantAsPlain(what + ", put again")
		}
	}
}

// P8.2: a root of one cell alone is gone, its child is the root then, as often as that is so; pages come back from the leaf upwards, and then from the root downwards.
func TestDropRoot(t *testing.T) {
	k := hundreds("abcdefghijklm")
	v := of(t, 20, k[:5]...)
	v.drop(k[0])
	v.drop(k[1])
	v.wantAsPlain("a root of two leaves, one is gone")
	v.wantNodes("the other one is the root", 1, 1, 2)
	v.wantPage("what came back first", 1, slotted(0, 0))
	v.wantPage("what came back then", 3, slotted(0, 1))
	v = of(t, 20, k...)
	v.wantNodes("three levels", 9, 3, 9)
	for _, key := range append(slices.Clone(k[8:]), k[0], k[1], k[2], k[3], k[4]) {
		v.drop(key)
		v.wantAsPlain("one dropped")
	}
	v.wantNodes("a leaf and a leaf, each below a node", 5, 3, 9)
	last := v.as.back[len(v.as.back)-1]
	v.drop(k[5])
	v.wantAsPlain("the left one gone")
	v.wantNodes("the right one is the root", 1, 1, 5)
	v.wantPage("the leaf came back", 4, slotted(0, last))
	v.wantPage("then the node above it", 3, slotted(0, 4))
	v.wantPage("then the root", 9, slotted(0, 3))
	v.wantPage("then the next one, whose child is the root", 8, slotted(0, 9))
}

// P8.2: a node above that is empty is gone as well, from whichever end keys are dropped.
func TestDropInner(t *testing.T) {
	k := hundreds("ABCDEFGHIJKLMNOPQRSTabcdefghijklmnopqrstuvwxyz")
	v := of(t, 60, k...)
	want(t, "the levels", v.o.Levels(), 4)
	for _, key := range k[:len(k)-1] {
		v.drop(key)
		v.wantAsPlain("from the first one on")
	}
	v.wantNodes("all but the last one", 1, 1, v.as.root)
	for i, key := range slices.Backward(k) {
		v.put(key, i)
		v.wantAsPlain("put again, from the last one on")
	}
	for _, key := range slices.Backward(k) {
		v.drop(key)
		v.wantAsPlain("from the last one on")
	}
	v.wantNodes("all dropped", 1, 1, v.as.root)
	want(t, "Room", v.h.Room(), 58)
}

// P8.2: nothing but a key's leaf and the nodes above it is changed.
func TestWhatIsChanged(t *testing.T) {
	v := of(t, 60, hundreds("abcdefghijklmnopqrst")...)
	was := pages(t, v.p)
	v.put(long("a", 99), 1)
	wantList(t, "Put where there is room", changed(t, v.p, was), 1)
	v.drop(long("a", 99))
	wantList(t, "Drop of that", changed(t, v.p, was))
	v.put(long("a", 100), 30)
	wantList(t, "Put of another value", changed(t, v.p, was), 1)
}
