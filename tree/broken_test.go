package tree_test

import (
	"fmt"
	"slices"
	"testing"

	"coupon/api"
	"coupon/page"
	"coupon/tree"
)

// key is a key of 100 bytes that begins with a letter.
func key(letter string) string { return long(letter, 100) }

// sound is a tree of three levels, on 14 pages: the root is 9, above 3 and 8; below 3 the leaves 1 (a, b), 2 (c, d) and 4 (e, f), below 8 the leaves 5 (g), 6 (i, j) and 7 (k to n). 10 is others', 11 came back, 12 and 13 were never used. It is committed.
func sound(t *testing.T) *both {
	t.Helper()
	v := of(t, 14, hundreds("abcdefghijklmn")...)
	v.drop(key("h"))
	v.give()
	v.back(v.give())
	v.wantNodes("sound", 9, 3, 9)
	want(t, "Commit", v.p.Commit(), api.OK)
	return v
}

// call is one of that tree: the nodes that it meets, the error that it tells, what it does, and whether there is nothing beside the error.
type call struct {
	meets []int
	told  api.Errno
	do    func() (bool, api.Errno)
}

// calls are some of all calls of that tree, by what they are.
func calls(v *both) map[string]call {
	get := func(key string) func() (bool, api.Errno) {
		return func() (bool, api.Errno) {
			at, e := v.o.Get([]byte(key))
			return at == api.Place{}, e
		}
	}
	put := func(key string) func() (bool, api.Errno) {
		return func() (bool, api.Errno) { return true, v.o.Put([]byte(key), value(77)) }
	}
	drop := func(key string) func() (bool, api.Errno) {
		return func() (bool, api.Errno) { return true, v.o.Drop([]byte(key)) }
	}
	all := []int{9, 3, 1, 2, 4, 8, 5, 6, 7}
	return map[string]call{
		"get a":         {[]int{9, 3, 1}, api.OK, get(key("a"))},
		"get d":         {[]int{9, 3, 2}, api.OK, get(key("d"))},
		"get f":         {[]int{9, 3, 4}, api.OK, get(key("f"))},
		"get g":         {[]int{9, 8, 5}, api.OK, get(key("g"))},
		"get j":         {[]int{9, 8, 6}, api.OK, get(key("j"))},
		"get n":         {[]int{9, 8, 7}, api.OK, get(key("n"))},
		"get none":      {[]int{9, 8, 5}, api.ErrNone, get("h")},
		"put again":     {[]int{9, 3, 1}, api.OK, put(key("b"))},
		"put":           {[]int{9, 3, 2}, api.OK, put("d")},
		"put and split": {[]int{9, 8, 7}, api.OK, put(key("o"))},
		"drop":          {[]int{9, 3, 1}, api.OK, drop(key("a"))},
		"drop a leaf":   {[]int{9, 8, 5}, api.OK, drop(key("g"))},
		"drop none":     {[]int{9, 8, 6}, api.ErrNone, drop("k")},
		"check":         {all, api.OK, func() (bool, api.Errno) { l, e := v.o.Check(); return l == nil, e }},
		"open":          {[]int{9}, api.OK, func() (bool, api.Errno) { o, e := tree.Open(v.p, v.h); return o == nil, e }},
		"format":        {[]int{}, api.ErrBytes, func() (bool, api.Errno) { return true, tree.Format(v.p, v.h) }},
		"all":           {all, api.OK, goneOver(v, "", "")},
		"all from k":    {[]int{9, 8, 7}, api.OK, goneOver(v, key("k"), "")},
		"all below c":   {[]int{9, 3, 1}, api.OK, goneOver(v, "", key("c"))},
		"all of d":      {[]int{9, 3, 2}, api.OK, goneOver(v, key("d"), key("e"))},
		"len":           {all, api.OK, func() (bool, api.Errno) { return true, bytesIf(v.o.Len() == 0) }},
		"levels":        {[]int{9}, api.OK, func() (bool, api.Errno) { return true, bytesIf(v.o.Levels() == 0) }},
	}
}

// goneOver is All, of which nothing tells ErrBytes.
func goneOver(v *both, from, below string) func() (bool, api.Errno) {
	return func() (bool, api.Errno) {
		many := 0
		for range v.o.All([]byte(from), []byte(below)) {
			many++
		}
		return true, bytesIf(many == 0)
	}
}

// bytesIf is ErrBytes, where there is nothing.
func bytesIf(nothing bool) api.Errno {
	if nothing {
		return api.ErrBytes
	}
	return api.OK
}

// wantBroken: where a page is so, do just those calls tell ErrBytes that meet this node, with nothing beside it, and nothing changed?
func wantBroken(t *testing.T, what string, n int, x api.Page, met ...int) {
	t.Helper()
	v := sound(t)
	want(t, "Put", v.p.Put(n, x), api.OK)
	want(t, "Commit", v.p.Commit(), api.OK)
	was := pages(t, v.p)
	for name, c := range calls(v) {
		wanted := c.told
		if slices.ContainsFunc(met, func(n int) bool { return slices.Contains(c.meets, n) }) {
			wanted = api.ErrBytes
		}
		zero, e := c.do()
		want(t, what+": "+name, e, wanted)
		if e != api.OK {
			want(t, what+": "+name+": nothing beside the error", zero, true)
			wantList(t, what+": "+name+": nothing is changed", changed(t, v.p, was))
		}
		want(t, "Abort", v.p.Abort(), api.OK)
	}
}

// with is a page with another record in a slot; one of no bytes is a record, too.
func with(x api.Page, slot int, record string) api.Page {
	x, _ = page.Put(x, slot, []byte(record))
	return x
}

// noise is a page that may not be, that begins with this kind.
func noise(kind int) api.Page {
	x := api.Page(slices.Repeat([]byte{byte(1)}, 512))
	x[0] = byte(kind)
	return x
}

// leafOf is a leaf of these keys, each of 100 bytes if it is one letter.
func leafOf(keys ...string) api.Page {
	l := []string{"\x00"}
	for i, k := range keys {
		if len(k) == 1 {
			k = key(k)
		}
		l = append(l, leafCell(k, value(i)))
	}
	return slotted(3, 0, l...)
}

// P8.1 to P8.3: of the sound tree, and of others that may be, nothing is ErrBytes.
func TestSound(t *testing.T) {
	v := sound(t)
	v.wantAsPlain("sound")
	wantBroken(t, "sound", 2, leafOf("c", "d"))
	wantBroken(t, "a key just below the upper bound", 2, leafOf("c", key("d"), long("dz", 99)))
	wantBroken(t, "the least key", 1, leafOf("\x00\x00", "a", "b"))
	wantBroken(t, "the greatest value", 1, with(leafOf("a", "b"), 1, leafCell(key("a"), api.Place{Page: 1<<31 - 1, Slot: 65535})))
}

// P8.2, P8.3: a leaf that is not what it should be is ErrBytes to those that meet it, and to no others.
func TestBrokenLeaf(t *testing.T) {
	good := leafOf("c", "d")
	inRoom := good
	inRoom[100] = 1
	for what, x := range map[string]api.Page{
		"noughts":                     {},
		"no page":                     noise(3),
		"a byte in its room":          inRoom,
		"one that came back":          slotted(0, 0),
		"of records":                  slotted(1, 0, "\x00", leafCell(key("c"), value(1)), leafCell(key("d"), value(1))),
		"a part":                      slotted(2, 0, "\x00", leafCell(key("c"), value(1)), leafCell(key("d"), value(1))),
		"a first page":                slotted(4, 0, "\x00", leafCell(key("c"), value(1)), leafCell(key("d"), value(1))),
		"one of another kind":         slotted(0, 0, "\x00", leafCell(key("c"), value(1)), leafCell(key("d"), value(1))),
		"a next one":                  slotted(3, 1, "\x00", leafCell(key("c"), value(1)), leafCell(key("d"), value(1))),
		"no slots":                    slotted(3, 0),
		"no keys":                     slotted(3, 0, "\x00"),
		"no level":                    slotted(3, 0, leafCell(key("c"), value(1)), leafCell(key("d"), value(1))),
		"an empty slot for the level": slotted(3, 0, "", leafCell(key("c"), value(1)), leafCell(key("d"), value(1))),
		"a level of no bytes":         with(good, 0, ""),
		"a level of two bytes":        with(good, 0, "\x00\x00"),
		"the level 1":                 with(good, 0, "\x01"),
		"the greatest level":          with(good, 0, "\xff"),
		"a node of the level 1":       slotted(3, 0, "\x01", innerCell("", 5)),
		"an empty slot":               slotted(3, 0, "\x00", "", leafCell(key("c"), value(1)), leafCell(key("d"), value(1))),
		"an empty slot in between":    slotted(3, 0, "\x00", leafCell(key("c"), value(1)), "", leafCell(key("d"), value(1))),
		"a cell of no bytes":          with(good, 1, ""),
		"a last cell of no bytes":     with(good, 2, ""),
		"a cell of a length alone":    with(good, 1, "\x00"),
		"a cell of a short length":    with(good, 1, "\x63"+leafCell(key("c"), value(1))[1:]),
		"a cell of a great length":    with(good, 1, "\x65"+leafCell(key("c"), value(1))[1:]),
		"a cell of the greatest":      with(good, 1, "\xff"+leafCell(key("c"), value(1))[1:]),
		"a byte fewer":                with(good, 1, leafCell(key("c"), value(1))[:106]),
		"a byte more":                 with(good, 1, leafCell(key("c"), value(1))+"\x00"),
		"another node's cell":         with(good, 2, innerCell(key("d"), 1)),
		"no key":                      with(good, 1, leafCell("", value(1))),
		"a key of 101 bytes":          with(good, 1, leafCell(long("c", 101), value(1))),
		"a key of 255 bytes":          with(good, 1, leafCell(long("c", 255), value(1))),
		"the same key twice":          leafOf("c", "d", "d"),
		"a key behind its next":       leafOf("d", "c"),
		"a key below its bound":       leafOf("b", "d"),
		"a key just below its bound":  leafOf(key("c")[:99], "d"),
		"a key at the other bound":    leafOf("d", "e"),
		"a key beyond it":             leafOf("c", "f"),
		"a value of too great a page": with(good, 2, leafCell(key("d"), api.Place{Page: 1 << 31})),
		"the greatest page":           with(good, 2, leafCell(key("d"), api.Place{Page: 1<<32 - 1})),
	} {
		wantBroken(t, "a leaf: "+what, 2, x, 2)
	}
	for what, x := range map[string]api.Page{"a key at the other bound": leafOf("a", "c"), "another leaf": leafOf("c", "d"), "no keys": leafOf()} {
		wantBroken(t, "the first leaf: "+what, 1, x, 1)
	}
	for what, x := range map[string]api.Page{"a key below its bound": leafOf("j", "l"), "another leaf": leafOf("i", "j"), "no keys": leafOf()} {
		wantBroken(t, "the last leaf: "+what, 7, x, 7)
	}
	wantBroken(t, "a leaf ahead of a node of the level 2: a key at that one's bound", 4, leafOf("e", "g"), 4)
	wantBroken(t, "a leaf behind it: a key below its bound", 5, leafOf("f", "g"), 5)
}

// inner is a node of these cells: keys by their letters, and children.
func inner(level int, cells ...any) api.Page {
	l := []string{string([]byte{byte(level)})}
	for i := 0; i < len(cells); i += 2 {
		k := cells[i].(string)
		if len(k) == 1 {
			k = key(k)
		}
		l = append(l, innerCell(k, cells[i+1].(int)))
	}
	return slotted(3, 0, l...)
}

// P8.2, P8.3: so is another node.
func TestBrokenInner(t *testing.T) {
	good := inner(1, "", 1, "c", 2, "e", 4)
	for what, x := range map[string]api.Page{
		"noughts":                   {},
		"no page":                   noise(3),
		"of another kind":           slotted(1, 0, "\x01", innerCell("", 1)),
		"a next one":                slotted(3, 9, "\x01", innerCell("", 1), innerCell(key("c"), 2), innerCell(key("e"), 4)),
		"no slots":                  slotted(3, 0),
		"no cells":                  inner(1),
		"the level 0":               inner(0, "", 1, "c", 2, "e", 4),
		"a leaf":                    leafOf("a", "c"),
		"the level 2":               inner(2, "", 1, "c", 2, "e", 4),
		"the greatest level":        inner(255, "", 1, "c", 2, "e", 4),
		"an empty slot":             slotted(3, 0, "\x01", innerCell("", 1), "", innerCell(key("e"), 4)),
		"a cell of no bytes":        with(good, 2, ""),
		"a byte fewer":              with(good, 2, innerCell(key("c"), 2)[:104]),
		"a byte more":               with(good, 2, innerCell(key("c"), 2)+"\x00"),
		"two bytes more":            with(good, 2, innerCell(key("c"), 2)+"\x00\x00"),
		"a leaf's cell":             with(good, 2, leafCell(key("c"), api.Place{Page: 2})),
		"a first key":               inner(1, "a", 1, "c", 2, "e", 4),
		"no key behind the first":   inner(1, "", 1, "", 2, "e", 4),
		"a key of 101 bytes":        inner(1, "", 1, long("c", 101), 2, "e", 4),
		"the same key twice":        inner(1, "", 1, "c", 2, "c", 4),
		"a key behind its next":     inner(1, "", 1, "e", 2, "c", 4),
		"a key at the bound":        inner(1, "", 1, "c", 2, "g", 4),
		"a key beyond the bound":    inner(1, "", 1, "c", 2, "i", 4),
		"the child 0":               inner(1, "", 1, "c", 0, "e", 4),
		"a child that is no page":   inner(1, "", 1, "c", 14, "e", 4),
		"a child of too great ones": inner(1, "", 1, "c", 1<<31, "e", 4),
		"the greatest child":        inner(1, "", 1, "c", 1<<32-1, "e", 4),
	} {
		wantBroken(t, "a node: "+what, 3, x, 3)
	}
	wantBroken(t, "a node: a key below its bound", 8, inner(1, "", 5, "f", 6, "k", 7), 8)
}

// P8.2, P8.3: so is a root; one that is no leaf has two cells at least.
func TestBrokenRoot(t *testing.T) {
	for what, x := range map[string]api.Page{
		"noughts":                 {},
		"of another kind":         slotted(1, 0, "\x02", innerCell("", 3), innerCell(key("g"), 8)),
		"a next one":              slotted(3, 1, "\x02", innerCell("", 3), innerCell(key("g"), 8)),
		"no slots":                slotted(3, 0),
		"no cells":                inner(2),
		"one cell":                inner(2, "", 3),
		"one cell of the level 1": inner(1, "", 1),
		"a first key":             inner(2, "a", 3, "g", 8),
		"the level 0":             inner(0, "", 3, "g", 8),
		"a child that is no page": inner(2, "", 3, "g", 14),
		"the same key twice":      inner(2, "", 3, "g", 8, "g", 8),
	} {
		wantBroken(t, "a root: "+what, 9, x, 9)
	}
	wantBroken(t, "a root of another level", 9, inner(3, "", 3, "g", 8), 3, 8)
	wantBroken(t, "a root of a lower level", 9, inner(1, "", 3, "g", 8), 3, 8)
	wantBroken(t, "a root of the greatest level", 9, inner(255, "", 3, "g", 8), 3, 8)
}

// P8.2, P8.3: a child that is no node of the level below, within its bounds, is ErrBytes to those that go there.
func TestBrokenChild(t *testing.T) {
	for what, child := range map[string]int{"the node itself": 3, "the root": 9, "a node of its level": 8, "the leaf ahead": 1, "the leaf behind": 4, "a leaf of another node": 5, "others'": 10, "one that came back": 11, "one that was never used": 13} {
		wantBroken(t, "a child: "+what, 3, inner(1, "", 1, "c", child, "e", 4), 2)
	}
	for what, child := range map[string]int{"the root itself": 9, "a leaf": 5, "the node ahead": 3, "others'": 10, "one that was never used": 12} {
		wantBroken(t, "a root's child: "+what, 9, inner(2, "", 3, "g", child), 8)
	}
	v := sound(t)
	v.wreck(9, inner(2, "", 3, "i", 8))
	wantNot(t, "a key below a bound that is too high", v.o, key("g"), api.ErrNone)
	wantGet(t, "a key at it", v.o, key("i"), value(8))
	_, e := v.o.Check()
	want(t, "Check of a bound that is too high", e, api.ErrBytes)
	wantKeys(t, "All", v.o.All(nil, nil))
	wantKeys(t, "All beside it", v.o.All([]byte(key("m")), nil), key("m"), key("n"))
}

// P8.3: where nodes have one cell alone, and share what is below, Check and All end, and tell it.
func TestBrokenShared(t *testing.T) {
	v := begun(t, 300)
	for range 298 {
		v.give()
	}
	want(t, "Put", v.p.Put(2, leafOf("x")), api.OK)
	for level := 1; level < 255; level++ {
		want(t, "Put", v.p.Put(2+level, inner(level, "", 1+level)), api.OK)
	}
	want(t, "SetRoot", v.h.SetRoot(299), api.OK)
	want(t, "Put", v.p.Put(299, inner(255, "", 256, "b", 256, "c", 256, "d", 256)), api.OK)
	want(t, "Levels", v.o.Levels(), 256)
	_, e := v.o.Check()
	want(t, "Check of a child that four share", e, api.ErrBytes)
	wantKeys(t, "All of it", v.o.All(nil, nil))
	wantKeys(t, "All where it is within the bounds", v.o.All([]byte(key("e")), nil), key("x"))
	wantNot(t, "where it is not", v.o, key("c"), api.ErrBytes)
	wantGet(t, "where it is", v.o, key("x"), value(0))
}

// wreck puts another page there.
func (v *both) wreck(n int, x api.Page) {
	v.t.Helper()
	want(v.t, "Put", v.p.Put(n, x), api.OK)
}

// tall is a tree of so many levels, on 600 pages, in which each node on the way to the first leaf is full; what is beside that way is no node.
func tall(t *testing.T, levels int) *both {
	t.Helper()
	v := begun(t, 600)
	for range levels {
		v.give()
	}
	key := func(level, i int) string { return long(fmt.Sprintf("%03d%c", level, 'a'+i), 100) }
	want(t, "Put", v.p.Put(2, leafOf(key(0, 0), key(0, 1), key(0, 2), key(0, 3))), api.OK)
	for level := 1; level < levels; level++ {
		x := inner(level, "", 1+level, key(level, 0), 1, key(level, 1), 1, key(level, 2), 1, key(level, 3), 1)
		want(t, "Put", v.p.Put(2+level, x), api.OK)
	}
	want(t, "SetRoot", v.h.SetRoot(1+levels), api.OK)
	want(t, "Levels", v.o.Levels(), levels)
	return v
}

// P8.2, P0.6: a root of the greatest level that there can be is not split: a greater one can't be told.
func TestBrokenLevels(t *testing.T) {
	v := tall(t, 255)
	added := long("000e", 100)
	want(t, "Put that splits all nodes", v.o.Put([]byte(added), value(1)), api.OK)
	want(t, "Levels", v.o.Levels(), 256)
	wantGet(t, "put", v.o, added, value(1))
	want(t, "Room", v.h.Room(), 598-255-256)
	v = tall(t, 256)
	was := pages(t, v.p)
	want(t, "Put that would split all nodes", v.o.Put([]byte(added), value(1)), api.ErrBytes)
	wantList(t, "nothing is changed", changed(t, v.p, was))
	want(t, "Put of another value", v.o.Put([]byte(long("000d", 100)), value(1)), api.OK)
	wantGet(t, "put", v.o, long("000d", 100), value(1))
	want(t, "Drop", v.o.Drop([]byte(long("000d", 100))), api.OK)
	want(t, "Put where there is room", v.o.Put([]byte(added), value(2)), api.OK)
	wantGet(t, "put", v.o, added, value(2))
	want(t, "Levels", v.o.Levels(), 256)
	v = tall(t, 256)
	v.wreck(3, inner(1, "", 2, long("001a", 100), 1))
	want(t, "Put that splits a leaf", v.o.Put([]byte(added), value(1)), api.OK)
	wantGet(t, "put", v.o, added, value(1))
	want(t, "Levels", v.o.Levels(), 256)
	want(t, "Room", v.h.Room(), 598-256-1)
}

// P8.2: a Put that splits nodes is ErrBytes, where one of them is a page that the heap did not give out, and would give out anew.
func TestBrokenNeverUsed(t *testing.T) {
	for what, fresh := range map[string]int{"the root": 9, "the node above the leaf": 8, "the leaf": 7, "the first leaf": 1} {
		v := sound(t)
		v.wreck(0, firstPage(fresh, 0, 0, 0, 9))
		was := pages(t, v.p)
		want(t, what+": Put that splits the leaf 7", v.o.Put([]byte(key("o")), value(1)), api.ErrBytes)
		wantList(t, what+": nothing is changed", changed(t, v.p, was))
		_, e := v.o.Check()
		want(t, what+": Check", e, api.ErrBytes)
		want(t, what+": Put of another value", v.o.Put([]byte(key("n")), value(1)), api.OK)
		wantGet(t, what+": put", v.o, key("n"), value(1))
	}
}

// P8.2: where the heap fails at a page that it is to give out, Put is ErrBytes, and what was given out ahead of it is as it was.
func TestBrokenGive(t *testing.T) {
	k := hundreds("abcdefghijklm")
	first := func(free, many int) func(v *both) {
		return func(v *both) { v.p.Put(0, firstPage(12, free, many, 0, 3)) }
	}
	for what, f := range map[string]func(v *both){
		"the first page":           func(v *both) { v.p.Put(9, slotted(1, 10, "x")) },
		"the second page":          func(v *both) { v.p.Put(10, api.Page{}) },
		"the third page":           func(v *both) { v.p.Put(11, slotted(3, 0)) },
		"the first one's next":     func(v *both) { v.p.Put(9, slotted(0, 0)) },
		"the second one's next":    func(v *both) { v.p.Put(10, slotted(0, 13)) },
		"there is one fewer":       first(9, 2),
		"there is one more":        first(9, 4),
		"there is just one of two": first(10, 1),
	} {
		v := of(t, 14, k[:12]...)
		for range 5 {
			v.give()
		}
		for _, n := range []int{11, 10, 9} {
			v.back(n)
		}
		v.wantNodes(what, 6, 2, 3)
		f(v)
		was := pages(t, v.p)
		want(t, what+": Put that needs three", v.o.Put([]byte(k[12]), value(1)), api.ErrBytes)
		wantList(t, what+": nothing is changed", changed(t, v.p, was))
		want(t, what+": Put that needs none", v.o.Put([]byte(k[0]), value(1)), api.OK)
	}
}

// P8.2: where the heap fails at a page that is to come back, Drop is ErrBytes, and what came back ahead of it is as it was.
func TestBrokenBack(t *testing.T) {
	for what, x := range map[string]api.Page{
		"all came back, but one":           firstPage(12, 7, 11, 0, 9),
		"all but two":                      firstPage(12, 7, 10, 0, 9),
		"all but three":                    firstPage(12, 7, 9, 0, 9),
		"the leaf was never used":          firstPage(5, 0, 0, 0, 9),
		"the node above was never used":    firstPage(8, 7, 3, 0, 9),
		"the root was never used":          firstPage(9, 7, 3, 0, 9),
		"no page was ever used":            firstPage(1, 0, 0, 0, 9),
		"the node and the root never were": firstPage(6, 0, 0, 0, 9),
	} {
		v := sound(t)
		for _, letter := range []string{"i", "j", "k", "l", "m", "n"} {
			v.drop(key(letter))
		}
		v.wantNodes(what, 7, 3, 9)
		v.wantPages(what)
		want(t, "Put", v.p.Put(0, x), api.OK)
		was := pages(t, v.p)
		want(t, what+": Drop of the last key below the node 8", v.o.Drop([]byte(key("g"))), api.ErrBytes)
		wantList(t, what+": nothing is changed", changed(t, v.p, was))
		want(t, what+": Drop of another key", v.o.Drop([]byte(key("a"))), api.OK)
	}
}

// P8.2: where a root is gone, the child that is the root then is met, too.
func TestBrokenHeir(t *testing.T) {
	k := hundreds("abcdefghijklm")
	for what, f := range map[string]func(v *both){
		"noughts":             func(v *both) { v.wreck(8, api.Page{}) },
		"of another kind":     func(v *both) { v.wreck(8, slotted(1, 0, "\x01", innerCell("", 5))) },
		"of another level":    func(v *both) { v.wreck(8, inner(2, "", 5)) },
		"a leaf":              func(v *both) { v.wreck(8, leafOf("g")) },
		"no cells":            func(v *both) { v.wreck(8, inner(1)) },
		"a key at its bound":  func(v *both) { v.wreck(8, inner(1, "", 5, "f", 6)) },
		"its child, noughts":  func(v *both) { v.wreck(5, api.Page{}) },
		"its child, a node":   func(v *both) { v.wreck(5, inner(1, "", 6)) },
		"its child, no keys":  func(v *both) { v.wreck(5, leafOf()) },
		"its child, a key":    func(v *both) { v.wreck(5, leafOf("f", "g")) },
		"its child, no child": func(v *both) { v.wreck(8, inner(1, "", 1)) },
	} {
		v := of(t, 20, k...)
		for _, key := range append(slices.Clone(k[8:]), k[:5]...) {
			v.drop(key)
		}
		v.wantNodes(what, 5, 3, 9)
		f(v)
		was := pages(t, v.p)
		want(t, what+": Drop that lets the root go", v.o.Drop([]byte(k[5])), api.ErrBytes)
		wantList(t, what+": nothing is changed", changed(t, v.p, was))
		want(t, what+": Put beside it", v.o.Put([]byte(k[4]), value(1)), api.OK)
		want(t, what+": Drop of a key that is not the last one", v.o.Drop([]byte(k[4])), api.OK)
		wantList(t, what+": as it was", changed(t, v.p, was))
	}
}
