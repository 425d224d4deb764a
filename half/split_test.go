package half_test

import (
	"math"
	"slices"
	"testing"

	"coupon/api"
	"coupon/half"
)

// P2.1: a tag may be, if its Count is from 1 to MaxCount, its Number from 0 to 2^31 - 1.
func TestMay(t *testing.T) {
	for _, tag := range tags() {
		if !half.May(tag) {
			t.Errorf("May(%v) is false", tag)
		}
	}
	for _, tag := range append(unfit(), api.Tag{}) {
		if half.May(tag) {
			t.Errorf("May(%v) is true", tag)
		}
	}
}

// P2.1: a row has a length of 4 bytes and its bytes, 48 of these a half, two halves a sector.
func TestNeed(t *testing.T) {
	for n, want := range map[int]int{
		0: 1, 1: 1, 43: 1, 44: 1, 45: 1, 91: 1, 92: 1, 93: 2, 139: 2, 140: 2, 141: 2, 187: 2, 188: 2, 189: 3, 284: 3, 285: 4,
		512: 6, 32732: 341, 32733: 342, api.MaxRow - 1: 342, api.MaxRow: 342,
	} {
		if is := half.Need(n); is != want {
			t.Errorf("Need(%d) is %d, not %d", n, is, want)
		}
	}
	for n := range api.MaxRow + 1 {
		if is := half.Need(n); (is-1)*96 >= n+4 || is*96 < n+4 {
			t.Errorf("Need(%d) is %d", n, is)
		}
	}
}

// P2.1: of a number that may not be, Need is 0.
func TestNeedOfNone(t *testing.T) {
	for _, n := range []int{math.MinInt, math.MinInt + 1, -1 << 32, -32768, -97, -96, -93, -48, -5, -4, -3, -2, -1, api.MaxRow + 1, api.MaxRow + 2, api.MaxRow + 12, api.MaxRow + 13, 65535, 65536, 1 << 31, 1 << 32, 1<<32 + 44, math.MaxInt - 4, math.MaxInt - 3, math.MaxInt} {
		if is := half.Need(n); is != 0 {
			t.Errorf("Need(%d) is %d", n, is)
		}
	}
}

// P2.1: Split is the row, byte by byte, of whatever number of bytes.
func TestSplit(t *testing.T) {
	tag := api.Tag{Count: 0x0102030405060708, Number: 0x090a0b0c}
	for _, n := range append(edges(), 100, 150, 200, 1000, 10000) {
		b := some(n)
		row := rowOf(t, tag, b)
		if len(row) != half.Need(n) {
			t.Errorf("a row of %d bytes has %d sectors, not %d", n, len(row), half.Need(n))
		}
		if !slices.Equal(row, sectors(plainHalves(tag, b))) {
			t.Errorf("a row of %d bytes is another one", n)
		}
	}
}

// P2.1: the halves bear the tag, whichever may be.
func TestSplitOfTags(t *testing.T) {
	for _, tag := range tags() {
		if !slices.Equal(rowOf(t, tag, some(100)), sectors(plainHalves(tag, some(100)))) {
			t.Errorf("a row of the tag %v is another one", tag)
		}
	}
}

// P2.1: a row, written out by hand: three halves, and one of noughts behind them.
func TestSplitByHand(t *testing.T) {
	row := rowOf(t, api.Tag{Count: 1<<56 + 5, Number: 7}, []byte("0123456789012345678901234567890123456789abcdXYZ0123456789012345678901234567890123456789abcdefghij"))
	head := "\x01\x00\x00\x00\x00\x00\x00\x05\x00\x00\x00\x07\x00"
	want := head + "\x00\x00\x03" + "\x00\x00\x00\x61" + "0123456789012345678901234567890123456789abcd" +
		head + "\x01\x00\x03" + "XYZ0123456789012345678901234567890123456789abcde" +
		head + "\x02\x00\x03" + "fghij" + string(make([]byte, 43)) +
		string(make([]byte, 64))
	if len(row) != 2 || string(row[0][:])+string(row[1][:]) != want {
		t.Errorf("the row is %q", row)
	}
}

// P2.1: what is in the bytes is no one's business: noughts at their end stand, too.
func TestSplitOfNoughts(t *testing.T) {
	tag := api.Tag{Count: 1}
	for _, n := range []int{1, 43, 44, 45, 92, 93, 500} {
		b := make([]byte, n)
		row := rowOf(t, tag, b)
		if !slices.Equal(row, sectors(plainHalves(tag, b))) {
			t.Errorf("a row of %d noughts is another one", n)
		}
		wantRow(t, "noughts", row, tag, b, half.Need(n))
	}
}

// P2.1: nil and empty bytes are one.
func TestSplitOfNothing(t *testing.T) {
	tag := api.Tag{Count: 9, Number: 9}
	if row := rowOf(t, tag, nil); !slices.Equal(row, rowOf(t, tag, []byte{})) || len(row) != 1 {
		t.Errorf("a row of nil has %d sectors", len(row))
	}
}

// P2.1: Split tells a tag that may not be, ahead of too many bytes; beside an error is nothing.
func TestSplitErrors(t *testing.T) {
	for _, tag := range append(unfit(), api.Tag{}) {
		for _, n := range []int{0, 1, 44, 100, api.MaxRow, api.MaxRow + 1, 70000} {
			if row, e := half.Split(tag, make([]byte, n)); e != api.ErrArg || len(row) > 0 {
				t.Errorf("Split(%v, %d bytes) is %d sectors, %d", tag, n, len(row), e)
			}
		}
	}
	for _, tag := range tags() {
		for _, n := range []int{api.MaxRow + 1, api.MaxRow + 2, api.MaxRow + 12, api.MaxRow + 13, 65535, 65536, 1 << 20} {
			if row, e := half.Split(tag, make([]byte, n)); e != api.ErrLong || len(row) > 0 {
				t.Errorf("Split(%v, %d bytes) is %d sectors, %d", tag, n, len(row), e)
			}
		}
	}
}

// P2.1: what is handed in stays as it is; what is answered is new memory.
func TestSplitSharesNothing(t *testing.T) {
	tag := api.Tag{Count: 1, Number: 2}
	for _, n := range []int{0, 44, 48, 96, 150} {
		given := append(make([]byte, 0, n+200), some(n)...)
		first := rowOf(t, tag, given)
		if rest := given[:n+200]; !slices.Equal(rest, append(some(n), make([]byte, 200)...)) {
			t.Errorf("Split of %d bytes changes what is handed in", n)
		}
		clear(given)
		second := rowOf(t, tag, some(n))
		if !slices.Equal(first, second) {
			t.Errorf("a row of %d bytes changes with what was handed in", n)
		}
		first[0] = api.Sector{}
		if !slices.Equal(second, sectors(plainHalves(tag, some(n)))) || !slices.Equal(rowOf(t, tag, some(n)), second) {
			t.Errorf("a row of %d bytes changes with another one", n)
		}
	}
}
