package store_test

import (
	"fmt"
	"slices"
	"strings"
	"testing"

	"coupon/api"
	"coupon/heap"
)

// P9.2, P9.3: the document's example.
func TestExample(t *testing.T) {
	v := begun(t, 100, 9)
	want(t, "Put", v.put("a", "x"), api.OK)
	v.commit()
	want(t, "Put", v.put("a", "y"), api.OK)
	wantGet(t, "in the transaction", v.s, "a", "y")
	v.abort()
	wantGet(t, "aborted", v.s, "a", "x")
	v.wantAsPlain("the example")
}

// lengths are those of records at which something changes.
func lengths() []int {
	return []int{0, 1, 2, 398, 399, 400, 401, 799, 800, 801, 1200, 19999, 20000}
}

// P9.2: Put gives a key a record of any length, whatever its bytes, and Get is a copy of it.
func TestPut(t *testing.T) {
	v := begun(t, 400, 400)
	for i, size := range lengths() {
		for _, key := range []string{string([]byte{byte(i)}), "a" + strings.Repeat("\xff", i), long(string(rune('b'+i)), 100)} {
			want(t, "Put", v.put(key, some(size, i)), api.OK)
			wantGet(t, "put", v.s, key, some(size, i))
			v.commit()
		}
		v.wantAsPlain("put")
	}
	v.open()
	v.wantAsPlain("opened again")
}

// P9.2: Put of a key that is there gives it another record, in the place of the one that there was.
func TestPutAgain(t *testing.T) {
	for _, first := range lengths() {
		for i, then := range lengths() {
			v := begun(t, 400, 110)
			v.put("a", some(300, 1))
			v.put("b", some(first, 2))
			v.put("c", some(200, 3))
			v.commit()
			want(t, "Put", v.put("b", some(then, 4+i)), api.OK)
			v.wantAsPlain("another record")
			v.commit()
			v.open()
			v.wantAsPlain("another record, opened again")
			want(t, "Len", v.s.Len(), 3)
			want(t, "the parts are those of the last record", uses(v)[2], heap.Need(then))
		}
	}
	v := of(t, 60, "a", "b", "c")
	for key, record := range v.is {
		want(t, "Put", v.put(key, record), api.OK)
	}
	want(t, "the same records change nothing", v.s.Changed(), 0)
}

// uses are how many pages of a store's heap there are of each use.
func uses(v *both) (l [5]int) {
	_, h, _ := v.s.Parts()
	for _, use := range h.Uses() {
		l[use]++
	}
	return l
}

// P9.2: what may not be is told in its order, and changes nothing.
func TestPutErrors(t *testing.T) {
	v := of(t, 60, "a", "b")
	v.put("c", "in the transaction")
	for _, record := range []string{"", "x", some(20000, 1), some(20001, 1), some(100000, 2)} {
		for _, key := range noKeys() {
			want(t, "Put of no key", v.put(key, record), api.ErrArg)
		}
	}
	for _, key := range []string{"a", "b", "c", "d", long("d", 100)} {
		for _, size := range []int{20001, 20002, 20400, 100000} {
			want(t, "Put of a long record", v.put(key, some(size, 1)), api.ErrLong)
		}
	}
	v.wantAsPlain("Put was refused")
	_, h, _ := v.s.Parts()
	for h.Room() > 0 {
		h.Give()
	}
	want(t, "Put of a long record, without room", v.put("d", some(20001, 1)), api.ErrLong)
}

// P9.2: a record that needs more pages than can be given out is ErrFull, with those of the nodes; nothing is changed then.
func TestPutFull(t *testing.T) {
	for pages := 4; pages < 14; pages++ {
		v := begun(t, 400, pages)
		room := v.s.Room()
		want(t, "Put of a part too many", v.put("a", some(400*room, 1)), api.ErrFull)
		v.wantAsPlain("full")
		want(t, "Put of as many parts as there are, and a page of records", v.put("a", some(400*(room-1), 1)), api.OK)
		want(t, "Room", v.s.Room(), 0)
		v.wantAsPlain("just full")
		want(t, "Put of another one", v.put("b", some(400, 1)), api.ErrFull)
		want(t, "Put of one that needs no page", v.put("b", some(300, 1)), api.OK)
		want(t, "Put in the place of the other one", v.put("a", some(400*(room-1), 7)), api.OK)
		want(t, "Put of a part more", v.put("a", some(400*(room-1)+1, 7)), api.ErrFull)
		v.wantAsPlain("full")
		want(t, "Drop", v.drop("a"), api.OK)
		want(t, "Room, dropped", v.s.Room(), room-1)
	}
}

// P9.2: where the record has room, and the nodes have none, nothing is changed, of the record, too.
func TestPutNodesFull(t *testing.T) {
	for room := range 6 {
		for parts := range 5 {
			v := begun(t, 400, 30)
			for _, key := range hundreds("abcd") {
				v.put(key, "x")
			}
			v.commit()
			v.put("\x01", some(400*(26-room), 1)) // 3 pages are used, a new leaf would need two more
			want(t, "the room that is left", v.s.Room(), room+1)
			wanted := api.OK
			if parts+2 > room+1 {
				wanted = api.ErrFull
			}
			was := v.s.Changed()
			want(t, fmt.Sprintf("Put of %d parts, where %d pages are left", parts, room+1), v.put(long("e", 100), some(max(parts*400, 4), 2)), wanted)
			v.wantAsPlain("nodes that are split")
			if wanted != api.OK {
				want(t, "Changed", v.s.Changed(), was)
			}
			v.commit()
			v.open()
			v.wantAsPlain("nodes that are split, opened again")
		}
	}
}

// P9.2: Drop lets a key's record go; without one it is ErrNone.
func TestDrop(t *testing.T) {
	v := begun(t, 400, 100)
	room := v.s.Room()
	keys := append(hundreds("abcdefghij"), "k", "l", "mm")
	for i, key := range keys {
		v.put(key, some(700*i%3000, i))
	}
	v.commit()
	for i := range keys {
		key := keys[i*5%len(keys)]
		want(t, "Drop", v.drop(key), api.OK)
		want(t, "Drop again", v.drop(key), api.ErrNone)
		wantNot(t, "dropped", v.s, key, api.ErrNone)
		v.wantAsPlain("dropped")
		v.commit()
	}
	want(t, "Room, all dropped", v.s.Room(), room)
	v.open()
	v.wantAsPlain("all dropped, opened again")
	want(t, "Drop of none", v.drop("a"), api.ErrNone)
	for _, key := range noKeys() {
		want(t, "Drop of no key", v.drop(key), api.ErrArg)
		wantNot(t, "no key", v.s, key, api.ErrArg)
	}
}

// P9.2: a refused Drop lets what was changed stay changed.
func TestDropRefused(t *testing.T) {
	v := of(t, 60, "a", "b", "c")
	v.put("d", some(1000, 1))
	v.drop("a")
	was := v.s.Changed()
	want(t, "Drop of none", v.drop("e"), api.ErrNone)
	want(t, "Drop of one that was dropped", v.drop("a"), api.ErrNone)
	want(t, "Drop of no key", v.drop(""), api.ErrArg)
	want(t, "Changed", v.s.Changed(), was)
	v.wantAsPlain("Drop was refused")
	v.commit()
	v.open()
	v.wantAsPlain("Drop was refused, opened again")
}

// P9.2: what is handed in stays the caller's, and is not kept; what is answered is the caller's.
func TestCallersOwn(t *testing.T) {
	v := begun(t, 400, 60)
	for _, size := range []int{5, 399, 1000} {
		key, record := append(make([]byte, 0, 9), "ab"...), append(make([]byte, 0, size+9), some(size, 1)...)
		want(t, "Put", v.s.Put(key, record), api.OK)
		v.is["ab"] = some(size, 1)
		want(t, "the key", string(key[:5]), "ab\x00\x00\x00")
		want(t, "the record", string(record[:size+3]), some(size, 1)+"\x00\x00\x00")
		copy(key, "zz")
		clear(record)
		v.wantAsPlain("the caller changed what he handed in")
		b, e := v.s.Get([]byte("ab"))
		want(t, "Get", e, api.OK)
		clear(b)
		_ = append(b, "zzzzzzzzz"...)
		other, _ := v.s.Get([]byte("ab"))
		copy(other, "other")
		v.wantAsPlain("the caller changed what he was told")
		want(t, "what he was told first", slices.Max(b), 0)
		copy(key, "ab")
		want(t, "Drop", v.s.Drop(key), api.OK)
		delete(v.is, "ab")
		want(t, "the key", string(key[:5]), "ab\x00\x00\x00")
		v.wantAsPlain("dropped")
	}
}
