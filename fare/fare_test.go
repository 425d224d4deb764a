package fare_test

import (
	"math"
	"slices"
	"strings"
	"testing"

	"coupon/api"
	"coupon/fare"
)

// P11.1: May of amounts, and of what is none.
func TestMay(t *testing.T) {
	for _, n := range amounts() {
		if !fare.May(n) || !fare.May(-n) {
			t.Errorf("%d, or below 0 as much, is no amount", n)
		}
	}
	for _, n := range wrongAmounts() {
		if fare.May(n) {
			t.Errorf("%d is an amount", n)
		}
	}
}

// P11.1: Sum of none, of one, of some.
func TestSum(t *testing.T) {
	wantSum(t, 0, api.OK)
	wantSum(t, 0, api.OK, []int64{}...)
	for _, n := range amounts() {
		wantSum(t, n, api.OK, n)
		wantSum(t, -n, api.OK, -n)
		wantSum(t, 0, api.OK, n, -n)
		wantSum(t, n-most, api.OK, -most, n)
		wantSum(t, most-n, api.OK, most, -n)
	}
	wantSum(t, 6, api.OK, 1, 2, 3)
	wantSum(t, -705, api.OK, -1000, 300, -5)
}

// P11.1: Sum is held against the bounds as a whole, not on the way.
func TestSumOnTheWay(t *testing.T) {
	wantSum(t, most, api.OK, most, 1, -1)
	wantSum(t, most, api.OK, most, most, most, -most, -most)
	wantSum(t, -most, api.OK, -most, -most, -1, most, 1)
	wantSum(t, 0, api.OK, append(repeat(most, 500), repeat(-most, 500)...)...)
	wantSum(t, most, api.OK, repeat(most/1000, 1000)...)
	wantSum(t, -most, api.OK, repeat(-most/1000, 1000)...)
}

// P11.1: Sum tells a sum that is none.
func TestSumTooGreat(t *testing.T) {
	wantSum(t, 0, api.ErrMoney, most, 1)
	wantSum(t, 0, api.ErrMoney, -most, -1)
	wantSum(t, 0, api.ErrMoney, most, most)
	wantSum(t, 0, api.ErrMoney, repeat(most, 1000)...)
	wantSum(t, 0, api.ErrMoney, repeat(-most, 1000)...)
	wantSum(t, 0, api.ErrMoney, append(repeat(most/1000, 999), most/1000+1)...)
}

// P11.1: Sum tells what is no amount, wherever it stands, though the sum would be one; P0.6: at whatever number.
func TestSumOfNoAmounts(t *testing.T) {
	for _, n := range wrongAmounts() {
		wantSum(t, 0, api.ErrMoney, n)
		wantSum(t, 0, api.ErrMoney, n, 5, 5)
		wantSum(t, 0, api.ErrMoney, 5, n, 5)
		wantSum(t, 0, api.ErrMoney, 5, 5, n)
		wantSum(t, 0, api.ErrMoney, n, -n)
		wantSum(t, 0, api.ErrMoney, repeat(n, 1000)...)
		wantSum(t, 0, api.ErrMoney, repeat(n, 64)...)
	}
	wantSum(t, 0, api.ErrMoney, most+1, -1)
	wantSum(t, 0, api.ErrMoney, -1, most+1)
	wantSum(t, 0, api.ErrMoney, math.MinInt64, math.MaxInt64, 1)
}

// P11.1: Sum tells too many amounts, ahead of one that may not be.
func TestSumOfTooMany(t *testing.T) {
	wantSum(t, 1000, api.OK, repeat(1, 1000)...)
	wantSum(t, 0, api.ErrLong, repeat(1, 1001)...)
	wantSum(t, 0, api.ErrLong, repeat(0, 1001)...)
	wantSum(t, 0, api.ErrLong, repeat(most, 1001)...)
	wantSum(t, 0, api.ErrLong, repeat(math.MaxInt64, 1001)...)
	wantSum(t, 0, api.ErrLong, repeat(1, 100_000)...)
}

// P11.1: Sum leaves what was handed in as it was.
func TestSumLeavesWhatIsHandedIn(t *testing.T) {
	l := []int64{5, -3, most, 0}
	fare.Sum(l...)
	if !slices.Equal(l, []int64{5, -3, most, 0}) {
		t.Errorf("it is %v", l)
	}
}

// texts are amounts and their texts, written out.
func texts() map[int64]string {
	return map[int64]string{
		0: "0.00", 1: "0.01", 5: "0.05", 9: "0.09", 10: "0.10", 11: "0.11", 50: "0.50", 99: "0.99", 100: "1.00", 101: "1.01", 110: "1.10", 705: "7.05", 999: "9.99", 1000: "10.00", 1005: "10.05", 1250: "12.50", 10_000: "100.00", 10_050: "100.50", 123_456_789: "1234567.89", 999_999_999_999: "9999999999.99", most: "10000000000.00",
		-1: "-0.01", -7: "-0.07", -10: "-0.10", -99: "-0.99", -100: "-1.00", -101: "-1.01", -705: "-7.05", -1250: "-12.50", -999_999_999_999: "-9999999999.99", -most: "-10000000000.00",
	}
}

// P11.1: Text and Of of the same amounts.
func TestTextAndOf(t *testing.T) {
	for n, s := range texts() {
		if got := fare.Text(n); got != s {
			t.Errorf("Text(%d) is %q, not %q", n, got, s)
		}
		wantOf(t, s, n, api.OK)
	}
}

// P11.1: Text of what is no amount.
func TestTextOfNoAmounts(t *testing.T) {
	for _, n := range wrongAmounts() {
		if s := fare.Text(n); s != "" {
			t.Errorf("Text(%d) is %q", n, s)
		}
	}
}

// P11.1: Of tells what is no amount's text.
func TestOfNoTexts(t *testing.T) {
	for _, s := range []string{
		"", "0", "7", "12", "100", "-", ".", "-.", "..", "0.", ".0", ".00", "-.00", ".50", "-.50", "5.", "-5.", "1.5", "1.0", "-1.5", "1.500", "1.000", "0.000", "12.5", "12.505", "1250",
		"00.00", "00.10", "01.00", "001.50", "-01.00", "-00.01", "-0.00", "--1.00", "--0.01", "- 1.00", "+1.00", "+0.01", "1.-5", "1.+5", "1.0-", "1-.00", "1.00-", "-1.00-", "0-1.00",
		" 1.00", "1.00 ", "1 .00", "1. 00", "1.0 ", "1. 0", "\t1.00", "1.00\n", "1.00\x00", "\x001.00", "1,00", "1:00", "1.0.0", "1..00", "1.00.", ".1.00", "1.00.00", "1.5.5", "1_000.00", "1,000.00",
		"a.00", "1.aa", "1.0a", "1.a0", "a1.00", "1a.00", "1a1.00", "0x1.00", "0x10.00", "1e5.00", "1e2", "1.e2", "Inf", "NaN", "1.00c", "$1.00", "/.00", ":.00", "1./0", "1.0:", "1.:0",
		"\u0661.00", "1.\u0660\u0660", "1.\u0660", "1\uff0e00", "\uff11.00", "\u22121.00", "1.0\u0660", "1.\xff\xff", "\xff.00", "1.\xc3\xa9", "1\u00b7.00",
		strings.Repeat("0", 1000) + ".00", "0" + strings.Repeat("9", 30) + ".00", strings.Repeat("9", 1000), strings.Repeat("9", 1000) + ".0", strings.Repeat("9", 1000) + ".000", strings.Repeat("9", 1000) + "x.00", "-" + strings.Repeat("0", 40) + ".00", strings.Repeat("9", 50) + "." + strings.Repeat("9", 50), "1." + strings.Repeat("0", 1000), strings.Repeat("-", 1000) + "1.00",
		"10000000000.010", "10000000000.0", "-10000000001", "10000000001.00 ", "010000000001.00",
	} {
		wantOf(t, s, 0, api.ErrBytes)
	}
}

// P11.1: Of tells a text whose amount is none; P0.6: of whatever size.
func TestOfTooGreat(t *testing.T) {
	for _, s := range []string{
		"10000000000.01", "10000000000.10", "10000000001.00", "10000000000.99", "11000000000.00", "20000000000.00", "99999999999.99", "100000000000.00", "92233720368547758.07", "92233720368547758.08", "184467440737095516.15", "184467440737095516.16", "184467440737095516.17", "184467440737095517.00", "18446744073709551616.00", "368934881474191032.32", "184467440747095516.15",
		"1" + strings.Repeat("0", 50) + ".00", "1" + strings.Repeat("0", 1000) + ".01", strings.Repeat("9", 100) + ".99", strings.Repeat("9", 100_000) + ".99", "18446744073709551616" + strings.Repeat("0", 64) + ".00",
	} {
		wantOf(t, s, 0, api.ErrMoney)
		wantOf(t, "-"+s, 0, api.ErrMoney)
	}
}
