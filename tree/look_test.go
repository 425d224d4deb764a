package tree_test

import (
	"slices"
	"strings"
	"testing"

	"coupon/api"
)

// wide is a tree of three levels: all keys of two small letters from "aa" to "jj", 100 of them, each behind 60 dashes.
func wide(t *testing.T) *both {
	t.Helper()
	v := begun(t, 60)
	for i := range 100 {
		j := i * 37 % 100
		v.put(wideKey(j), j)
	}
	want(t, "the levels", v.o.Levels(), 3)
	return v
}

// wideKey is a key of it, by its place.
func wideKey(i int) string {
	return strings.Repeat("-", 60) + string([]byte{byte('a' + i/10), byte('a' + i%10)})
}

// P8.3: All goes over the keys from one on, below another one, whether these are there or not; of no bytes: from the first one on, without end.
func TestAll(t *testing.T) {
	v := wide(t)
	bounds := []string{"", "\x00", "-", "a", strings.Repeat("-", 61), strings.Repeat("-", 101), strings.Repeat("z", 101), "\xff", strings.Repeat("-", 60)}
	for i := 0; i < 100; i += 7 {
		bounds = append(bounds, wideKey(i), wideKey(i)+"\x00", wideKey(i)[:61])
	}
	for _, from := range bounds {
		for _, below := range bounds {
			wantCells(t, "All from "+from+" below "+below, v.o.All([]byte(from), []byte(below)), v.as.within(from, below)...)
		}
		wantCells(t, "All from "+from, v.o.All([]byte(from), nil), v.as.within(from, "")...)
		wantCells(t, "All below "+from, v.o.All(nil, []byte(from)), v.as.within("", from)...)
	}
	wantCells(t, "All of just one", v.o.All([]byte(wideKey(41)), []byte(wideKey(42))), v.as.within(wideKey(41), wideKey(42))...)
	wantKeys(t, "All of none", v.o.All([]byte(wideKey(41)), []byte(wideKey(41))))
	wantKeys(t, "All of none, the other way round", v.o.All([]byte(wideKey(42)), []byte(wideKey(41))))
	wantKeys(t, "All of a tree without keys", begun(t, 9).o.All(nil, nil))
}

// P8.3: All goes over the keys as they are when it is called; it may be left at any time, and gone through as often as one likes.
func TestAllAsCalled(t *testing.T) {
	v := wide(t)
	all, was := v.o.All([]byte(wideKey(7)), nil), v.as.within(wideKey(7), "")
	for range 2 {
		for i := range was {
			many := 0
			for range all {
				if many++; many > i {
					break
				}
			}
			want(t, "how many, left", many, i+1)
		}
		wantCells(t, "gone through again", all, was...)
	}
	for key := range all {
		v.drop(string(key))
		v.put(string(key)+"x", 3)
	}
	wantCells(t, "as they were", all, was...)
	v.wantAsPlain("changed as it is gone through")
	for a := range all {
		for b := range all {
			if string(a) < string(b) {
				break
			}
		}
	}
	want(t, "Abort", v.p.Abort(), api.OK)
	wantCells(t, "as they were, aborted", all, was...)
}

// P8.3: what All goes over is the caller's, and what it is handed stays his.
func TestAllIsCopies(t *testing.T) {
	v := of(t, 9, "a", "b", "c")
	from, below := append(make([]byte, 0, 9), "a"...), []byte("c")
	all := v.o.All(from, below)
	want(t, "what was handed in", string(from)+string(below), "ac")
	copy(from, "z")
	copy(below, "a")
	for range 2 {
		wantKeys(t, "All", all, "a", "b")
		for key := range all {
			key[0] = 'z'
			_ = append(key, "zzzz"...)
		}
	}
	v.wantAsPlain("the caller changed what he was told")
}

// P8.3: Len is how many keys there are, Levels how many levels of nodes.
func TestLen(t *testing.T) {
	v := begun(t, 60)
	want(t, "Len at first", v.o.Len(), 0)
	want(t, "Levels at first", v.o.Levels(), 1)
	levels := make([]int, 5)
	keys := hundreds("abcdefghijklmnopqrstuvwxyz")
	for i, key := range keys {
		v.put(key, i)
		want(t, "Len", v.o.Len(), i+1)
		levels[v.o.Levels()]++
	}
	wantList(t, "how often which Levels", levels, 0, 4, 8, 14, 0)
	for i, key := range slices.Backward(keys) {
		v.drop(key)
		want(t, "Len", v.o.Len(), i)
	}
	want(t, "Levels at last", v.o.Levels(), 1)
}

// P8.3: Check is the nodes' pages, rising, in new memory.
func TestCheck(t *testing.T) {
	v := begun(t, 60)
	l, e := v.o.Check()
	want(t, "Check's error", e, api.OK)
	wantList(t, "Check at first", l, 1)
	v.give()
	v.give()
	v.back(v.give())
	for i, key := range hundreds("abcdefghijklm") {
		v.put(key, i)
	}
	l, e = v.o.Check()
	want(t, "Check's error", e, api.OK)
	wantList(t, "Check", l, 1, 4, 5, 6, 7, 8, 9, 10, 11)
	clear(l)
	_ = append(l[:2], 9, 9)
	v.wantAsPlain("what was told is the caller's")
	v = of(t, 60, hundreds("zyxwvutsrqponm")...)
	v.wantAsPlain("put the other way round")
	want(t, "the first leaf is not the first page", v.as.nodes[1].cells[0].key > "m", true)
}
