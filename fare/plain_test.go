package fare_test

import (
	"fmt"
	"math"
	"math/big"
	"slices"
	"testing"

	"coupon/api"
	"coupon/fare"
)

const most = 1_000_000_000_000 // MaxMoney, as the document tells it

// amounts of 0 or more: the edges and some between.
func amounts() []int64 {
	return []int64{0, 1, 2, 3, 7, 9, 10, 11, 64, 99, 100, 101, 999, 1000, 1250, 9999, 10_000, 10_001, 123_456, math.MaxInt32, 1 << 32, 123_456_789_012, 500_000_000_000, most - 100, most - 99, most - 2, most - 1, most}
}

// wrongAmounts are none, whatever their sign.
func wrongAmounts() []int64 {
	return []int64{math.MinInt64, math.MinInt64 + 1, -1 << 62, -most * 1000, -most - 100, -most - 2, -most - 1, most + 1, most + 2, most + 100, 2 * most, most * 1000, 1 << 62, math.MaxInt64 - 1, math.MaxInt64}
}

// below are amounts below 0.
func below() []int64 { return []int64{-1, -2, -99, -100, -most + 1, -most} }

// plainText is an amount's text, as the document says it.
func plainText(n int64) string {
	sign := ""
	if n < 0 {
		sign, n = "-", -n
	}
	return fmt.Sprintf("%s%d.%02d", sign, n/100, n%100)
}

// plainShares are the exact shares rounded down; each cent that is left is given to the one that, of those that got none yet, lost the most.
func plainShares(amount int64, weights []int64) []int64 {
	all := new(big.Int)
	for _, w := range weights {
		all.Add(all, big.NewInt(w))
	}
	shares, lost := make([]int64, len(weights)), make([]*big.Int, len(weights))
	left := amount
	for i, w := range weights {
		product := new(big.Int).Mul(big.NewInt(amount), big.NewInt(w))
		share, rest := new(big.Int).DivMod(product, all, new(big.Int))
		shares[i], lost[i] = share.Int64(), rest
		left -= shares[i]
	}
	for ; left > 0; left-- {
		first := -1
		for i := range weights {
			if lost[i] != nil && (first < 0 || lost[i].Cmp(lost[first]) > 0) {
				first = i
			}
		}
		shares[first]++
		lost[first] = nil
	}
	return shares
}

// wantShares: the amount is dealt out so, and what was handed in is as it was.
func wantShares(t *testing.T, amount int64, weights, want []int64) {
	t.Helper()
	given := slices.Clone(weights)
	if l, e := fare.Deal(amount, given...); !slices.Equal(l, want) || e != api.OK {
		t.Errorf("Deal(%d, %v) is %v, %d, not %v", amount, weights, l, e, want)
	}
	if !slices.Equal(given, weights) {
		t.Errorf("Deal(%d, %v) leaves %v", amount, weights, given)
	}
}

// wantNoShares: it is refused so.
func wantNoShares(t *testing.T, amount int64, weights []int64, want api.Errno) {
	t.Helper()
	if l, e := fare.Deal(amount, weights...); len(l) != 0 || e != want {
		t.Errorf("Deal(%d, %v) is %v, %d, not %d", amount, weights, l, e, want)
	}
}

// wantSum: the amounts are together so much.
func wantSum(t *testing.T, want int64, e api.Errno, l ...int64) {
	t.Helper()
	if n, got := fare.Sum(l...); n != want || got != e {
		t.Errorf("Sum(%d amounts, %v) is %d, %d, not %d, %d", len(l), l[:min(len(l), 5)], n, got, want, e)
	}
}

// wantOf: the text's amount is this one.
func wantOf(t *testing.T, s string, want int64, e api.Errno) {
	t.Helper()
	if n, got := fare.Of(s); n != want || got != e {
		t.Errorf("Of(%.60q) is %d, %d, not %d, %d", s, n, got, want, e)
	}
}

// repeat is a list of one number, so many times.
func repeat(n int64, many int) []int64 { return slices.Repeat([]int64{n}, many) }
