package wal_test

import (
	"slices"
	"testing"

	"coupon/api"
	"coupon/wal"
)

// wantNoLog: does Open tell that error, and does it leave all as it was?
func wantNoLog(t *testing.T, what string, head api.Sector, wanted api.Errno) {
	t.Helper()
	d := laid(t, 40, head, plainRow(1, 0, plainBytes(recordOf(1, 1)...))...)
	d.Write(39, plainHead(1, 1))
	d.Fuse(9)
	was := d.Copy()
	l, r, e := wal.Open(d, 30)
	want(t, what, e, wanted)
	want(t, what, l, nil)
	want(t, what, len(r), 0)
	wantUntouched(t, what, d, was)
}

// P4.1: heads that may not be are ErrNone.
func TestNoHead(t *testing.T) {
	wantNoLog(t, "noughts", api.Sector{}, api.ErrNone)
	wantNoLog(t, "all bytes 255", api.Sector(slices.Repeat([]byte{255}, 128)), api.ErrNone)
	for at := range 4 {
		for _, other := range []byte{0, 'c', 'C' + 1, 255} {
			head := plainHead(9, 4)
			if head[at] != other {
				head[at] = other
				wantNoLog(t, "another text", head, api.ErrNone)
			}
		}
	}
	for at := 20; at < 64; at++ {
		for _, other := range []byte{1, 128, 255} {
			head := plainHead(9, 4)
			head[at] = other
			wantNoLog(t, "no noughts behind", head, api.ErrNone)
		}
	}
	var second api.Sector
	head := plainHead(9, 4)
	copy(second[64:], head[:64])
	wantNoLog(t, "a head in the second half", second, api.ErrNone)
}

// P4.1: counts that may not be are ErrNone; MaxCount is ErrFull.
func TestCountsThatMayNotBe(t *testing.T) {
	const most = api.MaxCount
	for _, c := range []struct{ count, since uint64 }{
		{0, 0}, {0, 1}, {1, 0}, {1, 2}, {5, 0}, {5, 6}, {5, 1 << 63}, {5, 1<<64 - 1}, {5, most},
		{most - 1, most}, {most, 0}, {most, most + 1}, {most + 1, 1}, {most + 1, most}, {most + 1, most + 1}, {most + 2, 1},
		{1 << 63, 1}, {1 << 63, 1 << 63}, {1<<64 - 1, 1}, {1<<64 - 1, 1<<64 - 1}, {1 << 32, 0}, {1, 1 << 32}, {most, 1<<64 - 1},
	} {
		wantNoLog(t, "counts that may not be", plainHead(c.count, c.since), api.ErrNone)
	}
	for _, since := range []uint64{1, 2, 1 << 32, most - 1, most} {
		wantNoLog(t, "the greatest count", plainHead(most, since), api.ErrFull)
	}
}

// P4.1: Open saves the next count, with the since that there is; the second half of the head is not looked at.
func TestHead(t *testing.T) {
	const most = api.MaxCount
	for _, c := range []struct{ count, since uint64 }{
		{1, 1}, {2, 1}, {2, 2}, {255, 255}, {255, 3}, {0x0102030405060708, 0x0102030405060707}, {1<<32 - 1, 1}, {1 << 32, 1 << 32}, {most - 1, 1}, {most - 1, most - 1},
	} {
		for _, fill := range []byte{0, 1, 255} {
			head := plainHead(c.count, c.since)
			copy(head[64:], slices.Repeat([]byte{fill}, 64))
			d := laid(t, 40, head)
			l, r := opened(t, "a head that may be", d, 30)
			want(t, "records", len(r), 0)
			wantLooks(t, "opened", l, 30, 0, c.count+1, c.since, false)
			wantSettled(t, "opened", d, laid(t, 40, plainHead(c.count+1, c.since)))
		}
	}
}

// P4.1: each time that a log is opened, the next count is saved.
func TestOpenAgain(t *testing.T) {
	d := formatted(t, 30, 0)
	for n := range uint64(20) {
		l, _ := opened(t, "again", d, 30)
		wantLooks(t, "again", l, 30, 0, 2+n, 1, false)
	}
	l, _ := opened(t, "again", d, 30)
	want(t, "Commit", l.Commit(recordOf(1, 1)...), api.OK)
	want(t, "the count of this life", sectorAt(t, d, 1), plainRow(22, 0, plainBytes(recordOf(1, 1)...))[0])
}

// row is a row, and whether a log says it.
type row struct {
	count  uint64
	number int
	bytes  []byte
}

// sectorsOf are rows' sectors, one behind the other.
func sectorsOf(rows ...row) []api.Sector {
	var l []api.Sector
	for _, r := range rows {
		l = append(l, plainRow(r.count, r.number, r.bytes)...)
	}
	return l
}

// wantOpened: behind a head of the count 9, since 4, does a log of so many sectors say just the first of these records?
func wantOpened(t *testing.T, what string, sectors int, l []api.Sector, said ...[]api.Change) {
	t.Helper()
	d := laid(t, 1000, plainHead(9, 4), l...)
	o := laid(t, 1000, plainHead(10, 4), l...)
	is, r := opened(t, what, d, sectors)
	wantRecords(t, what, r, said)
	room := sectors
	for _, s := range said {
		room -= plainNeed(len(s))
	}
	wantLooks(t, what, is, room, len(said), 10, 4, false)
	wantSettled(t, what, d, o)
}

// P4.1: rows of counts from since to the count, whose numbers are in order, are records.
func TestRows(t *testing.T) {
	a, b, c := recordOf(1, 1), recordOf(2, 2), recordOf(3, 60)
	one, two, sixty := plainBytes(a...), plainBytes(b...), plainBytes(c...)
	wantOpened(t, "none", 600, nil)
	for count := uint64(4); count <= 9; count++ {
		wantOpened(t, "one", 600, sectorsOf(row{count, 0, one}), a)
		wantOpened(t, "two", 600, sectorsOf(row{4, 0, two}, row{count, 1, one}), b, a)
		wantOpened(t, "three", 600, sectorsOf(row{count, 0, one}, row{9, 1, sixty}, row{count, 2, two}), a, c, b)
		wantOpened(t, "falling counts", 600, sectorsOf(row{9, 0, one}, row{count, 1, two}, row{4, 2, sixty}), a, b, c)
	}
	wantOpened(t, "a page that stands twice", 600, sectorsOf(row{4, 0, append(slices.Clone(one), one...)}), append(slices.Clone(a), a...))
	var l [][]api.Change
	var rows []row
	for n := range 100 {
		l = append(l, recordOf(n, 1))
		rows = append(rows, row{4 + uint64(n)%6, n, plainBytes(recordOf(n, 1)...)})
	}
	wantOpened(t, "a hundred", 600, sectorsOf(rows...), l...)
}

// P4.1: the records end ahead of the first row that is none, whatever stands behind it.
func TestRowsThatAreNone(t *testing.T) {
	a, b := recordOf(1, 1), recordOf(2, 2)
	one, two := plainBytes(a...), plainBytes(b...)
	bad := slices.Clone(one)
	bad[0] = 128
	last := slices.Clone(two)
	last[516] = 255
	wrong := []row{
		{3, 1, two}, {1, 1, two}, {0, 1, two}, {10, 1, two}, {11, 1, two}, {api.MaxCount, 1, two}, {1<<63 + 5, 1, two}, {5 << 32, 1, two},
		{4, 0, two}, {4, 2, two}, {9, 3, two}, {9, 257, two}, {9, 1 << 24, two}, {9, 1<<31 + 1, two}, {9, 1<<31 - 1, two},
		{9, 1, nil}, {9, 1, one[:515]}, {9, 1, append(slices.Clone(one), 0)}, {9, 1, two[:1031]}, {9, 1, plainBytes(recordOf(1, 61)...)}, {9, 1, make([]byte, api.MaxRow)}, {9, 1, bad}, {9, 1, last},
	}
	for _, w := range wrong {
		wantOpened(t, "the second one is none", 900, sectorsOf(row{9, 0, one}, w, row{9, 2, one}, row{9, 1, one}), a)
		w.number--
		wantOpened(t, "the first one is none", 900, sectorsOf(w, row{9, 1, one}, row{9, 0, one}))
	}
}

// P4.1: rows stand just one behind the other, and are whole.
func TestRowsThatAreNotWhole(t *testing.T) {
	a, b := recordOf(1, 1), recordOf(2, 2)
	first, second := sectorsOf(row{9, 0, plainBytes(a...)}), sectorsOf(row{9, 1, plainBytes(b...)})
	joined := slices.Concat(first, second)
	wantOpened(t, "both", 30, joined, a, b)
	wantOpened(t, "a sector between", 30, slices.Concat(first, make([]api.Sector, 1), second), a)
	wantOpened(t, "a sector ahead", 30, slices.Concat(make([]api.Sector, 1), joined))
	wantOpened(t, "a sector left out", 30, slices.Concat(first[:5], second))
	for at := range joined {
		said := [][]api.Change{a, b}[:min(at/6, 1)]
		for half := range 2 {
			if at == 5 && half == 1 { // behind the last half of an odd number stand noughts
				continue
			}
			l := slices.Clone(joined)
			copy(l[at][64*half:], make([]byte, 64))
			wantOpened(t, "a half is missing", 30, l, said...)
			other := sectorsOf(row{8, 0, plainBytes(a...)}, row{8, 1, plainBytes(b...)})
			l = slices.Clone(joined)
			copy(l[at][64*half:64*half+64], other[at][64*half:])
			if at != 0 && at != 6 || half == 1 {
				wantOpened(t, "a half is of another count", 30, l, said...)
			}
		}
	}
}

// P4.1: a row that runs over the log's end is none, one that ends there is.
func TestRowsAtTheEnd(t *testing.T) {
	a, b := recordOf(1, 1), recordOf(2, 2)
	l := sectorsOf(row{9, 0, plainBytes(a...)}, row{9, 1, plainBytes(b...)})
	for sectors, said := range map[int][][]api.Change{4: nil, 5: nil, 6: {a}, 7: {a}, 16: {a}, 17: {a, b}, 18: {a, b}} {
		wantOpened(t, "a log that ends there", sectors, l, said...)
	}
	d := made(t, 18)
	lay(t, d, 0, plainHead(9, 4))
	lay(t, d, 1, l...)
	is, r := opened(t, "a disk that ends there, too", d, 17)
	wantRecords(t, "a disk that ends there, too", r, [][]api.Change{a, b})
	wantLooks(t, "a disk that ends there, too", is, 0, 2, 10, 4, false)
}

// P4.1: with a fuse at each step Open tells the disk's error; two steps are enough, and the records are as they were.
func TestOpenWithFuse(t *testing.T) {
	a := recordOf(1, 1)
	for fuse := range 5 {
		d := laid(t, 40, plainHead(9, 4), sectorsOf(row{9, 0, plainBytes(a...)})...)
		d.Fuse(fuse)
		l, r, e := wal.Open(d, 30)
		if fuse >= 2 {
			want(t, "a fuse that is enough", e, api.OK)
			wantRecords(t, "a fuse that is enough", r, [][]api.Change{a})
			wantLooks(t, "a fuse that is enough", l, 24, 1, 10, 4, false)
			wantSteps(t, "a fuse that is enough", d, fuse-2)
			continue
		}
		want(t, "a fuse that is not enough", e, api.ErrDead)
		want(t, "a fuse that is not enough", l, nil)
		want(t, "a fuse that is not enough", len(r), 0)
		wantSaid(t, "a fuse that is not enough", d, 30, [][]api.Change{a})
	}
}

// P4.1: the records that are answered are new memory, and share none with one another.
func TestOpenSharesNothing(t *testing.T) {
	d, l := begun(t, 100, 0)
	wanted := [][]api.Change{recordOf(1, 1), recordOf(2, 3), recordOf(3, 2)}
	for _, r := range wanted {
		want(t, "Commit", l.Commit(r...), api.OK)
	}
	_, first := opened(t, "first", d, 100)
	_, second := opened(t, "second", d, 100)
	for i := range first {
		_ = append(first[i], recordOf(100, 5)...)
		wantRecords(t, "another one is put behind one", first[i+1:], wanted[i+1:])
		clear(first[i])
	}
	wantRecords(t, "the first ones are cleared", second, wanted)
	wantSaid(t, "the first ones are cleared", d, 100, wanted)
}
