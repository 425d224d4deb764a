package wire_test

import (
	"bytes"
	"math"
	"strconv"
	"strings"
	"testing"

	"coupon/api"
	"coupon/wire"
)

// P1.3: digits of bytes are two for each, 0 to 9, a to f.
func TestDigits(t *testing.T) {
	for _, x := range []struct {
		b []byte
		s string
	}{
		{nil, ""}, {[]byte{}, ""}, {[]byte{0}, "00"}, {[]byte{7}, "07"}, {[]byte{0x9a, 0xbc, 0xde, 0xf0}, "9abcdef0"}, {[]byte{255, 0, 16, 1}, "ff001001"}, {[]byte("09af"), "30396166"},
	} {
		if s := wire.Digits(x.b); s != x.s {
			t.Errorf("Digits(% x) is %q", x.b, s)
		}
		if b, e := wire.OfDigits(x.s); e != api.OK || !bytes.Equal(b, x.b) {
			t.Errorf("OfDigits(%q) is % x, %d", x.s, b, e)
		}
	}
}

// P1.3: each two letters of one byte each are digits, or none.
func TestOfDigitsOfAllPairs(t *testing.T) {
	worth := func(c int) int { return strings.IndexByte("0123456789abcdef", byte(c)) }
	for x := range 256 {
		for y := range 256 {
			s := string([]byte{byte(x), byte(y)})
			b, e := wire.OfDigits(s)
			if worth(x) < 0 || worth(y) < 0 {
				if e != api.ErrBytes || len(b) > 0 {
					t.Errorf("OfDigits(%q) is % x, %d", s, b, e)
				}
			} else if e != api.OK || len(b) != 1 || int(b[0]) != worth(x)*16+worth(y) || wire.Digits(b) != s {
				t.Errorf("OfDigits(%q) is % x, %d", s, b, e)
			}
		}
	}
}

// P1.3: OfDigits of what is no bytes' digits.
func TestOfDigitsFails(t *testing.T) {
	for _, s := range []string{"0", "a", "000", "0fA0", "FF", "0x", "0x00", "0g", "g0", " 0", "0 ", "00 ", "-1", "00-1", "00\n", "\x00\x00", "\u00e9", "\u00e9\u00e9", "0\u00e9", "00\u00e9", "\u00e900", "\u0660\u0660", "\xff\xff", "00\xff\xff", "0000zz", "00zz00"} {
		if b, e := wire.OfDigits(s); e != api.ErrBytes || len(b) > 0 {
			t.Errorf("OfDigits(%q) is % x, %d", s, b, e)
		}
	}
}

// notDigits are texts that are no number's digits, whatever the bound.
func notDigits() []string {
	return []string{"", "-", "--", "--1", "-0", "-00", "-01", "00", "01", "007", "+1", "+0", " 1", "1 ", "-1 ", "- 1", "1.0", "1,0", "1_0", "0x1", "1e3", "x", "a", "f", "7f", "1a", "x1", "1x", "1-", "1-1", "\n", "1\n", "1\x00", "\x00", "\u0663", "1\u0663", "\u06631", "\uff11", "1\xff", "\xff", "0:", "0/",
		strings.Repeat("9", 100) + "x", "0" + strings.Repeat("9", 100), "-0" + strings.Repeat("9", 100), "18446744073709551615x", "99999999999999999999-"}
}

// P1.3: Decimal tells what is no number's digits, ahead of a bound.
func TestDecimalOfNoDigits(t *testing.T) {
	for _, s := range append(notDigits(), "-1", "-5", "-18446744073709551616") {
		for _, most := range []uint64{0, 1, 9, math.MaxUint64} {
			if n, e := wire.Decimal(s, most); n != 0 || e != api.ErrBytes {
				t.Errorf("Decimal(%q, %d) is %d, %d", s, most, n, e)
			}
		}
	}
}

// P1.3: Decimal of numbers, up to a bound.
func TestDecimalBounds(t *testing.T) {
	for _, n := range []uint64{0, 1, 5, 9, 10, 19, 99, 100, 1<<32 - 1, 1 << 32, 1 << 62, 1<<63 - 1, 1 << 63, math.MaxUint64 - 6, math.MaxUint64 - 5, math.MaxUint64 - 1, math.MaxUint64} {
		s := strconv.FormatUint(n, 10)
		for _, most := range []uint64{0, 1, 4, 5, 8, 9, 10, 18, 19, 20, 99, 1 << 32, 1<<63 - 1, n - 1, n, n + 1, n / 10, math.MaxUint64 - 1, math.MaxUint64} {
			got, e := wire.Decimal(s, most)
			if n > most && (got != 0 || e != api.ErrRange) || n <= most && (got != n || e != api.OK) {
				t.Errorf("Decimal(%q, %d) is %d, %d", s, most, got, e)
			}
		}
	}
	for _, s := range []string{"18446744073709551616", "18446744073709551620", "18446744073709551625", "36893488147419103232", "99999999999999999999", "184467440737095516150", "340282366920938463463374607431768211456", strings.Repeat("9", 1000), "1" + strings.Repeat("0", 1000)} {
		for _, most := range []uint64{0, 1, 1 << 63, math.MaxUint64} {
			if n, e := wire.Decimal(s, most); n != 0 || e != api.ErrRange {
				t.Errorf("Decimal(%q, %d) is %d, %d", s, most, n, e)
			}
		}
	}
}

// P1.3: Signed tells what is no number's digits, ahead of a bound, of one below 0, too.
func TestSignedOfNoDigits(t *testing.T) {
	for _, s := range notDigits() {
		for _, most := range []int64{math.MinInt64, -1, 0, 1, 9, math.MaxInt64} {
			if n, e := wire.Signed(s, most); n != 0 || e != api.ErrBytes {
				t.Errorf("Signed(%q, %d) is %d, %d", s, most, n, e)
			}
		}
	}
}

// P1.3: Signed of numbers, up to a bound, down to its opposite.
func TestSignedBounds(t *testing.T) {
	for _, n := range []int64{0, 1, 7, 9, 10, 42, 1 << 32, 1 << 62, math.MaxInt64 - 1, math.MaxInt64} {
		for _, is := range []int64{n, -n} {
			s := strconv.FormatInt(is, 10)
			for _, most := range []int64{math.MinInt64, -n - 1, -n, -8, -1, 0, 1, 6, 7, 8, 9, n - 1, n, math.MaxInt64 - 1, math.MaxInt64} {
				got, e := wire.Signed(s, most)
				if n > most && (got != 0 || e != api.ErrRange) || n <= most && (got != is || e != api.OK) {
					t.Errorf("Signed(%q, %d) is %d, %d", s, most, got, e)
				}
			}
		}
	}
	for _, s := range []string{"9223372036854775808", "-9223372036854775808", "-9223372036854775809", "18446744073709551615", "18446744073709551616", "-18446744073709551615", "-18446744073709551616", strings.Repeat("9", 1000), "-" + strings.Repeat("9", 1000)} {
		for _, most := range []int64{math.MinInt64, -1, 0, 1, math.MaxInt64} {
			if n, e := wire.Signed(s, most); n != 0 || e != api.ErrRange {
				t.Errorf("Signed(%q, %d) is %d, %d", s, most, n, e)
			}
		}
	}
}

// P1.3: OfDigits answers new memory, each time.
func TestOfDigitsSharesNothing(t *testing.T) {
	first, _ := wire.OfDigits("0102")
	second, _ := wire.OfDigits("0102")
	first[0] = 9
	_ = append(first[:1], 9)
	if !bytes.Equal(second, []byte{1, 2}) {
		t.Errorf("another answer is % x", second)
	}
	given := []byte{1, 2}
	if wire.Digits(given); !bytes.Equal(given, []byte{1, 2}) {
		t.Errorf("what was handed in is % x", given)
	}
}
