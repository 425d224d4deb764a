package half_test

import (
	"encoding/binary"
	"slices"
	"testing"

	"coupon/api"
	"coupon/half"
)

// plain is a half, as the document says it: what its head tells, and 48 bytes.
type plain struct {
	count       uint64
	number      uint32
	place, many uint16
	piece       [48]byte
}

// halfBytes are the 64 bytes of a half.
func (p plain) halfBytes() []byte {
	b := binary.BigEndian.AppendUint64(nil, p.count)
	b = binary.BigEndian.AppendUint32(b, p.number)
	b = binary.BigEndian.AppendUint16(b, p.place)
	b = binary.BigEndian.AppendUint16(b, p.many)
	return append(b, p.piece[:]...)
}

// plainHalves are the halves of a row, made apart from the package.
func plainHalves(t api.Tag, b []byte) []plain {
	all := append(binary.BigEndian.AppendUint32(nil, uint32(len(b))), b...)
	for len(all)%48 > 0 {
		all = append(all, 0)
	}
	var l []plain
	for piece := range slices.Chunk(all, 48) {
		l = append(l, plain{t.Count, uint32(t.Number), uint16(len(l)), uint16(len(all) / 48), [48]byte(piece)})
	}
	return l
}

// sectors are halves, two a sector; behind an odd number of them is one of noughts.
func sectors(l []plain) []api.Sector {
	var all []byte
	for _, p := range l {
		all = append(all, p.halfBytes()...)
	}
	all = append(all, make([]byte, len(l)%2*64)...)
	var row []api.Sector
	for s := range slices.Chunk(all, 128) {
		row = append(row, api.Sector(s))
	}
	return row
}

// some are so many bytes, none of them 0.
func some(n int) []byte {
	b := make([]byte, n)
	for i := range b {
		b[i] = byte(i%251 + 1)
	}
	return b
}

// rowOf is a row that may be.
func rowOf(t *testing.T, tag api.Tag, b []byte) []api.Sector {
	t.Helper()
	row, e := half.Split(tag, b)
	if e != api.OK {
		t.Fatalf("Split(%v, %d bytes) is %d", tag, len(b), e)
	}
	return row
}

// wantRow: the sectors begin with just this row.
func wantRow(t *testing.T, what string, l []api.Sector, tag api.Tag, b []byte, many int) {
	t.Helper()
	given := slices.Clone(l)
	got, c, n, e := half.Join(l...)
	if e != api.OK || got != tag || !slices.Equal(c, b) || n != many {
		t.Errorf("%s: Join is %v, %d bytes, %d sectors, %d, not %v, %d bytes, %d sectors", what, got, len(c), n, e, tag, len(b), many)
	}
	if !slices.Equal(l, given) {
		t.Errorf("%s: Join changes what is handed in", what)
	}
}

// wantNone: the sectors begin with no row.
func wantNone(t *testing.T, what string, l []api.Sector) {
	t.Helper()
	if tag, b, n, e := half.Join(l...); e != api.ErrBytes || tag != (api.Tag{}) || len(b) > 0 || n != 0 {
		t.Errorf("%s: Join is %v, %d bytes, %d sectors, %d, not ErrBytes alone", what, tag, len(b), n, e)
	}
}

// edges are numbers of bytes about those that just fill a half, a sector, the greatest row.
func edges() []int {
	var l []int
	for many := 1; many <= 12; many++ {
		l = append(l, 48*many-5, 48*many-4, 48*many-3)
	}
	return append(l, 0, 1, 2, 42, 255, 256, 257, 4096, 65536/2-96, 32679, 32684, 32731, 32732, 32733, api.MaxRow-1, api.MaxRow)
}

// tags are tags that may be, at both ends of each of their numbers, and between.
func tags() []api.Tag {
	var l []api.Tag
	for _, count := range []uint64{1, 2, 255, 256, 0x0102030405060708, 1<<32 - 1, 1 << 32, 1<<62 - 1, 1 << 62} {
		for _, number := range []int{0, 1, 255, 256, 0x01020304, 1<<31 - 2, 1<<31 - 1} {
			l = append(l, api.Tag{Count: count, Number: number})
		}
	}
	return l
}

// unfit are tags that may not be.
func unfit() []api.Tag {
	var l []api.Tag
	for _, count := range []uint64{0, 1<<62 + 1, 1<<62 + 2, 1 << 63, 1<<63 + 1, 1<<64 - 1} {
		for _, number := range []int{0, 1, 1<<31 - 1} {
			l = append(l, api.Tag{Count: count, Number: number})
		}
	}
	for _, count := range []uint64{0, 1, 2, 1 << 62, 1<<62 + 1} {
		for _, number := range []int{-1 << 63, -1<<32 + 1, -1 << 31, -2, -1, 1 << 31, 1<<31 + 1, 1<<32 - 1, 1 << 32, 1<<32 + 5, 1<<63 - 1} {
			l = append(l, api.Tag{Count: count, Number: number})
		}
	}
	return l
}
