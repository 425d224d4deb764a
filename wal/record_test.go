package wal_test

import (
	"bytes"
	"math"
	"math/rand"
	"slices"
	"testing"

	"coupon/api"
	"coupon/wal"
)

// edgeNumbers are page numbers that may be, at both ends, and between.
func edgeNumbers() []int { return []int{0, 1, 255, 256, 0x01020304, 1<<31 - 2, 1<<31 - 1} }

// P4.3: Need is of 1 to 60 pages; else it is 0.
func TestNeed(t *testing.T) {
	for pages, sectors := range map[int]int{1: 6, 2: 11, 3: 17, 30: 162, 59: 318, 60: 323} {
		want(t, "Need", wal.Need(pages), sectors)
	}
	for pages := 1; pages <= 60; pages++ {
		want(t, "Need of pages that may be", wal.Need(pages), plainNeed(pages))
	}
	for _, pages := range []int{math.MinInt, math.MinInt32, -1 << 32, -61, -2, -1, 0, 61, 62, 63, 64, 120, 1000, math.MaxInt32, 1 << 32, 1<<32 + 1, 1 << 55, 1 << 61, 1<<62 + 1, math.MaxInt/516 + 1, math.MaxInt} {
		want(t, "Need of pages that may not be", wal.Need(pages), 0)
	}
}

// P4.3: Bytes are each page's number, the highest byte first, and its bytes; Of is the record again.
func TestBytes(t *testing.T) {
	for pages := 1; pages <= 60; pages++ {
		for _, n := range edgeNumbers() {
			r := recordOf(pages, pages)
			r[pages/2].Number = n
			r[pages-1].Number = n
			given := slices.Clone(r)
			b, e := wal.Bytes(r...)
			want(t, "Bytes", e, api.OK)
			if !bytes.Equal(b, plainBytes(given...)) {
				t.Errorf("Bytes of %d pages, of the number %d, are others", pages, n)
			}
			want(t, "Bytes leave the record as it is", slices.Equal(r, given), true)
			back, e := wal.Of(plainBytes(given...))
			want(t, "Of", e, api.OK)
			wantRecords(t, "Of", [][]api.Change{back}, [][]api.Change{given})
		}
	}
	b, e := wal.Bytes(api.Change{Number: 0x01020304, Page: pageOf(7)}, api.Change{Number: 5})
	want(t, "by hand", e, api.OK)
	page := pageOf(7)
	hand := "\x01\x02\x03\x04" + string(page[:]) + "\x00\x00\x00\x05" + string(make([]byte, 512))
	want(t, "by hand", string(b), hand)
}

// P4.3: a page may be there twice, and pages stand in whatever order.
func TestBytesInOrder(t *testing.T) {
	r := []api.Change{{Number: 9, Page: pageOf(1)}, {Number: 3, Page: pageOf(2)}, {Number: 9, Page: pageOf(3)}, {Number: 9, Page: pageOf(1)}}
	b, e := wal.Bytes(r...)
	want(t, "Bytes", e, api.OK)
	want(t, "Bytes", string(b), string(plainBytes(r...)))
	back, e := wal.Of(b)
	want(t, "Of", e, api.OK)
	wantRecords(t, "Of", [][]api.Change{back}, [][]api.Change{r})
}

// P4.3: no pages, more than 60, a number that may not be: Bytes tells ErrArg, and nothing else.
func TestBytesErrors(t *testing.T) {
	for _, r := range unfit() {
		b, e := wal.Bytes(r...)
		want(t, "Bytes of what may not be", e, api.ErrArg)
		want(t, "Bytes of what may not be", len(b), 0)
	}
	if _, e := wal.Bytes(); e != api.ErrArg {
		t.Errorf("Bytes of nothing is %v", e)
	}
}

// P4.3: bytes that are no record's: Of tells ErrBytes, and nothing else.
func TestOfErrors(t *testing.T) {
	wrong := [][]byte{nil, {}}
	for _, n := range []int{1, 3, 4, 5, 511, 512, 515, 517, 520, 1031, 1033, 60*516 - 1, 60*516 + 1, 61*516 - 1, 61 * 516, 62 * 516, 120 * 516, 1 << 20} {
		wrong = append(wrong, make([]byte, n))
	}
	for _, high := range []byte{128, 129, 255} {
		for _, pages := range []int{1, 2, 60} {
			for _, at := range []int{0, pages / 2, pages - 1} {
				b := plainBytes(recordOf(1, pages)...)
				b[516*at] = high
				wrong = append(wrong, b)
			}
		}
	}
	for _, b := range wrong {
		given := slices.Clone(b)
		r, e := wal.Of(b)
		want(t, "Of what is no record's", e, api.ErrBytes)
		want(t, "Of what is no record's", len(r), 0)
		want(t, "Of leaves the bytes as they are", bytes.Equal(b, given), true)
	}
}

// P4.3: pages may be of whatever bytes.
func TestAnyBytes(t *testing.T) {
	c := rand.New(rand.NewSource(1))
	for range 200 {
		r := make([]api.Change, 1+c.Intn(5))
		for i := range r {
			c.Read(r[i].Page[:])
			r[i].Number = c.Intn(1 << 31)
		}
		b, e := wal.Bytes(r...)
		want(t, "Bytes", e, api.OK)
		want(t, "Bytes", string(b), string(plainBytes(r...)))
		back, e := wal.Of(b)
		want(t, "Of", e, api.OK)
		wantRecords(t, "Of", [][]api.Change{back}, [][]api.Change{r})
	}
}

// P4.3: what is answered is new memory; what is handed in stays the caller's.
func TestRecordSharesNothing(t *testing.T) {
	for _, pages := range []int{1, 2, 60} {
		r := recordOf(3, pages)
		b, _ := wal.Bytes(r...)
		clear(r)
		want(t, "Bytes, what was handed in cleared", string(b), string(plainBytes(recordOf(3, pages)...)))
		back, _ := wal.Of(b)
		other, _ := wal.Of(b)
		clear(b)
		clear(other)
		wantRecords(t, "Of, what was handed in cleared", [][]api.Change{back}, [][]api.Change{recordOf(3, pages)})
		given := append(make([]byte, 0, 516*pages+50), plainBytes(recordOf(3, pages)...)...)
		wal.Of(given)
		want(t, "what stands behind what was handed in", string(given[:516*pages+50]), string(plainBytes(recordOf(3, pages)...))+string(make([]byte, 50)))
	}
}
