package number_test

import (
	"fmt"
	"math"
	"testing"

	"coupon/api"
	"coupon/number"
)

// plainText are the digits of a carrier's serial as the document says them; the last is what is left of the first twelve, digit by digit, by 7.
func plainText(carrier, serial int) string {
	s := fmt.Sprintf("%03d%09d", carrier, serial)
	left := 0
	for _, c := range []byte(s) {
		left = (left*10 + int(c-'0')) % 7
	}
	return s + string(rune('0'+left))
}

// plainNumber is what digits are worth.
func plainNumber(s string) uint64 {
	n := uint64(0)
	for _, c := range []byte(s) {
		n = n*10 + uint64(c-'0')
	}
	return n
}

// carriers and serials that may be: the edges and some between.
func carriers() []int { return []int{100, 101, 106, 107, 123, 500, 699, 700, 998, 999} }
func serials() []int {
	return []int{0, 1, 2, 6, 7, 8, 9, 10, 11, 99, 100, 12345, 1<<16 - 1, 100_000_000, 123_456_789, 999_999_992, 999_999_998, 999_999_999}
}

// wrongCarriers and wrongSerials may not be.
func wrongCarriers() []int {
	return []int{math.MinInt, math.MinInt32, -999, -123, -100, -1, 0, 1, 9, 10, 99, 1000, 1001, 1123, 9999, 123_000, 1<<16 + 123, math.MaxInt32, 1<<32 + 123, math.MaxInt}
}
func wrongSerials() []int {
	return []int{math.MinInt, math.MinInt + 1, math.MinInt32, -1_000_000_000, -999_999_999, -7, -1, 1_000_000_000, 1_000_000_001, math.MaxInt32, 1 << 32, 10_000_000_000, math.MaxInt - 1, math.MaxInt}
}

// wrongNumbers are no ticket numbers, and why.
func wrongNumbers() map[uint64]api.Errno {
	return map[uint64]api.Errno{
		0: api.ErrArg, 1: api.ErrArg, 7: api.ErrArg, 123: api.ErrArg, 999_999_999: api.ErrArg,
		99_999_999_999: api.ErrArg, 123_000_000_001: api.ErrArg, 230_000_000_014: api.ErrArg, 999_999_999_990: api.ErrArg, 999_999_999_999: api.ErrArg,
		10_000_000_000_000: api.ErrArg, 10_000_000_000_003: api.ErrArg, 12_300_000_000_140: api.ErrArg, 11_230_000_000_014: api.ErrArg, 99_999_999_999_990: api.ErrArg,
		1<<63 - 1: api.ErrArg, 1 << 63: api.ErrArg, math.MaxUint64 - 1: api.ErrArg, math.MaxUint64: api.ErrArg,
		1<<44 + 1_230_000_000_014: api.ErrArg, 1<<63 + 1_230_000_000_014: api.ErrArg,
		1_000_000_000_000: api.ErrDigit, 1_000_000_000_001: api.ErrDigit, 1_000_000_000_004: api.ErrDigit, 1_000_000_000_006: api.ErrDigit,
		1_230_000_000_013: api.ErrDigit, 1_230_000_000_015: api.ErrDigit, 1_230_000_000_010: api.ErrDigit,
		9_999_999_999_991: api.ErrDigit, 9_999_999_999_997: api.ErrDigit, 9_999_999_999_998: api.ErrDigit, 9_999_999_999_999: api.ErrDigit,
	}
}

// wantNumber: n is what the digits tell, whole and in its parts.
func wantNumber(t *testing.T, n uint64, carrier, serial int) {
	t.Helper()
	s := plainText(carrier, serial)
	if n != plainNumber(s) {
		t.Errorf("%d is not %s", n, s)
	}
	if e := number.Check(n); e != api.OK {
		t.Errorf("Check(%d) is %d", n, e)
	}
	if c := number.Carrier(n); c != carrier {
		t.Errorf("Carrier(%d) is %d", n, c)
	}
	if i := number.Serial(n); i != serial {
		t.Errorf("Serial(%d) is %d", n, i)
	}
	if x := number.Text(n); x != s {
		t.Errorf("Text(%d) is %q", n, x)
	}
	if x, e := number.Of(s); x != n || e != api.OK {
		t.Errorf("Of(%q) is %d, %d", s, x, e)
	}
}

// wantNone: n is no ticket number, for that reason.
func wantNone(t *testing.T, n uint64, why api.Errno) {
	t.Helper()
	if e := number.Check(n); e != why {
		t.Errorf("Check(%d) is %d, not %d", n, e, why)
	}
	if c := number.Carrier(n); c != 0 {
		t.Errorf("Carrier(%d) is %d", n, c)
	}
	if i := number.Serial(n); i != 0 {
		t.Errorf("Serial(%d) is %d", n, i)
	}
	if s := number.Text(n); s != "" {
		t.Errorf("Text(%d) is %q", n, s)
	}
}
