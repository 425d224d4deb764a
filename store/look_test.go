package store_test

import (
	"fmt"
	"maps"
	"testing"

	"coupon/api"
)

// wide is a store of 60 keys, of which each has a record of its own.
func wide(t *testing.T) *both {
	t.Helper()
	v := begun(t, 400, 200)
	for i := range 60 {
		j := i * 37 % 60
		want(t, "Put", v.put(wideKey(j), some(j*j%900, j)), api.OK)
		v.commit()
	}
	return v
}

// wideKey is a key of it, by its place.
func wideKey(i int) string { return long(fmt.Sprintf("%02d", i), 50) }

// P9.2: All goes over the keys from one on, below another one, whether these are there or not, each with its record; of no bytes: from the first one on, without end.
func TestAll(t *testing.T) {
	v := wide(t)
	bounds := []string{"", "\x00", "0", long("9", 120), "\xff", long("00", 49), long("00", 51)}
	for i := 0; i < 60; i += 9 {
		bounds = append(bounds, wideKey(i), wideKey(i)+"\x00", wideKey(i)[:49])
	}
	for _, from := range bounds {
		for _, below := range bounds {
			wantPairs(t, "All from "+from+" below "+below, v.s.All([]byte(from), []byte(below)), v.is, from, below)
		}
	}
	wantPairs(t, "All of all", v.s.All(nil, nil), v.is, "", "")
	wantPairs(t, "All of a store without keys", begun(t, 30, 9).s.All(nil, nil), plain{}, "", "")
}

// P9.2: All goes over the keys and records as they are when it is called; it may be left at any time, and gone through as often as one likes.
func TestAllAsCalled(t *testing.T) {
	v := wide(t)
	v.put(wideKey(8), "in the transaction")
	all, was := v.s.All([]byte(wideKey(7)), []byte(wideKey(50))), maps.Clone(v.is)
	for range 2 {
		for i := range 43 {
			many := 0
			for range all {
				if many++; many > i {
					break
				}
			}
			want(t, "how many, left", many, i+1)
		}
		wantPairs(t, "gone through again", all, was, wideKey(7), wideKey(50))
	}
	for key := range all {
		want(t, "Drop", v.drop(string(key)), api.OK)
		want(t, "Put", v.put(string(key)+"x", "other"), api.OK)
	}
	wantPairs(t, "as they were", all, was, wideKey(7), wideKey(50))
	v.wantAsPlain("changed as it is gone through")
	for a := range all {
		for b := range all {
			if string(a) < string(b) {
				break
			}
		}
	}
	v.abort()
	wantPairs(t, "as they were, aborted", all, was, wideKey(7), wideKey(50))
	kill(t, v.d)
	wantPairs(t, "as they were, dead", all, was, wideKey(7), wideKey(50))
}

// P9.2: what All goes over is the caller's, and what it is handed stays his.
func TestAllIsCopies(t *testing.T) {
	v := of(t, 60, "a", "b", "c", "d", "e")
	from, below := append(make([]byte, 0, 9), "b"...), []byte("e")
	all := v.s.All(from, below)
	want(t, "what was handed in", string(from)+string(below), "be")
	copy(from, "z")
	copy(below, "a")
	for range 2 {
		wantPairs(t, "All", all, v.is, "b", "e")
		for key, record := range all {
			key[0] = 'z'
			_ = append(key, "zzzz"...)
			clear(record)
			_ = append(record, "zzzz"...)
		}
	}
	v.wantAsPlain("the caller changed what he was told")
}

// P9.2, P9.3: Len is how many keys there are, Changed how many pages the transaction changed, Room how many pages can be given out.
func TestLooks(t *testing.T) {
	v := begun(t, 400, 60)
	look := func(what string, long, changed, room int) {
		t.Helper()
		want(t, what+": Len", v.s.Len(), long)
		want(t, what+": Changed", v.s.Changed(), changed)
		want(t, what+": Room", v.s.Room(), room)
	}
	look("at first", 0, 0, 58)
	v.put("a", "x")
	look("a leaf, a page of records, the first page", 1, 3, 57)
	v.commit()
	look("committed", 1, 0, 57)
	v.put("b", "y")
	look("a leaf, a page of records", 2, 2, 57)
	v.put("c", some(1000, 1))
	look("three parts, too", 3, 6, 54)
	v.abort()
	look("aborted", 1, 0, 57)
	v.drop("a")
	look("dropped", 0, 3, 58)
	v.put("b", "y")
	look("put", 1, 2, 57)
	v.drop("b")
	v.put("a", "x")
	look("as it was", 1, 0, 57)
	v.wantAsPlain("as it was")
}

// P9.3: Dead is whether the disk died; all calls of a dead store are ErrDead, ahead of all but ErrNil, and it stays dead.
func TestDead(t *testing.T) {
	v := of(t, 60, "a", "b")
	v.put("c", "in the transaction")
	want(t, "Dead of a living one", v.s.Dead(), false)
	kill(t, v.d)
	for range 2 {
		want(t, "Dead", v.s.Dead(), true)
		v.wantRefuses("dead", api.ErrDead)
		want(t, "Changed of a dead one", v.s.Changed(), 2)
		want(t, "Crash", v.d.Crash(nil), api.OK)
	}
	v.open()
	v.wantAsPlain("the power is back")
}

// wantRefuses: do all calls tell this error, and nothing beside it?
func (v *both) wantRefuses(what string, wanted api.Errno) {
	v.t.Helper()
	for _, key := range append(noKeys(), "a", "z", long("a", 100)) {
		wantNot(v.t, what, v.s, key, wanted)
		want(v.t, what+": Put", v.s.Put([]byte(key), []byte("x")), wanted)
		want(v.t, what+": Put of a long record", v.s.Put([]byte(key), make([]byte, 20001)), wanted)
		want(v.t, what+": Drop", v.s.Drop([]byte(key)), wanted)
	}
	wantPairs(v.t, what+": All", v.s.All(nil, nil), plain{}, "", "")
	wantPairs(v.t, what+": All of some", v.s.All([]byte("a"), []byte("b")), plain{}, "", "")
	want(v.t, what+": Len", v.s.Len(), 0)
	want(v.t, what+": Commit", v.s.Commit(), wanted)
	want(v.t, what+": Abort", v.s.Abort(), wanted)
	want(v.t, what+": Checkpoint", v.s.Checkpoint(), wanted)
	want(v.t, what+": Room", v.s.Room(), 0)
	want(v.t, what+": Check", v.s.Check(), wanted)
}
