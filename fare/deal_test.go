package fare_test

import (
	"math"
	"testing"

	"coupon/api"
	"coupon/fare"
)

// P11.2: shares written out.
func TestDeal(t *testing.T) {
	for _, x := range []struct {
		amount        int64
		weights, want []int64
	}{
		{100, []int64{1, 1, 1}, []int64{34, 33, 33}}, {10, []int64{3, 3, 1}, []int64{4, 4, 2}}, {2, []int64{1, 1, 1}, []int64{1, 1, 0}}, {1, []int64{1, 1, 1}, []int64{1, 0, 0}}, {3, []int64{1, 1, 1}, []int64{1, 1, 1}}, {5, []int64{1, 1, 1}, []int64{2, 2, 1}},
		{10, []int64{1, 3, 3}, []int64{2, 4, 4}}, {10, []int64{3, 1, 3}, []int64{4, 2, 4}}, {1, []int64{1, 2}, []int64{0, 1}}, {1, []int64{2, 1}, []int64{1, 0}}, {1, []int64{1, 2, 2}, []int64{0, 1, 0}}, {2, []int64{1, 2, 2}, []int64{0, 1, 1}}, {3, []int64{1, 2, 2}, []int64{1, 1, 1}}, {4, []int64{1, 2, 2}, []int64{1, 2, 1}},
		{0, []int64{5, 0}, []int64{0, 0}}, {0, []int64{7}, []int64{0}}, {7, []int64{0, 9}, []int64{0, 7}}, {7, []int64{9, 0}, []int64{7, 0}}, {7, []int64{0, 1, 0, 1, 0}, []int64{0, 4, 0, 3, 0}}, {1, []int64{0, 0, 1}, []int64{0, 0, 1}}, {1, []int64{0, 0, 1, 1}, []int64{0, 0, 1, 0}},
		{100, []int64{1, 99}, []int64{1, 99}}, {99, []int64{1, 99}, []int64{1, 98}}, {50, []int64{1, 99}, []int64{1, 49}}, {49, []int64{1, 99}, []int64{0, 49}}, {50, []int64{99, 1}, []int64{50, 0}}, {1000, []int64{333, 333, 334}, []int64{333, 333, 334}},
		{most, []int64{most, most}, []int64{most / 2, most / 2}}, {most - 1, []int64{most, most}, []int64{most / 2, most/2 - 1}}, {most, []int64{1}, []int64{most}}, {most, []int64{most}, []int64{most}}, {1, []int64{most}, []int64{1}}, {most, []int64{most, 1}, []int64{most - 1, 1}}, {most, []int64{1, most - 1}, []int64{1, most - 1}}, {most, []int64{1, 1, 1}, []int64{333_333_333_334, 333_333_333_333, 333_333_333_333}},
	} {
		wantShares(t, x.amount, x.weights, x.want)
	}
}

// P11.2: one weight takes all.
func TestDealToOne(t *testing.T) {
	for _, amount := range amounts() {
		for _, weight := range amounts()[1:] {
			wantShares(t, amount, []int64{weight}, []int64{amount})
			wantShares(t, amount, []int64{0, weight, 0}, []int64{0, amount, 0})
		}
	}
}

// P11.2: the greatest of all, as many as may be.
func TestDealToMost(t *testing.T) {
	for _, amount := range amounts() {
		for _, weight := range []int64{1, 2, 3, 1000, most - 1, most} {
			var want []int64
			for i := range int64(64) {
				share := amount / 64
				if i < amount%64 {
					share++
				}
				want = append(want, share)
			}
			wantShares(t, amount, repeat(weight, 64), want)
		}
	}
}

// P11.2: two weights, as the words say it.
func TestDealToTwo(t *testing.T) {
	for _, amount := range amounts() {
		for _, first := range amounts() {
			for _, second := range amounts() {
				if first+second > 0 {
					wantShares(t, amount, []int64{first, second}, plainShares(amount, []int64{first, second}))
				}
			}
		}
	}
}

// P11.2: all deals of small amounts by three small weights, as the words say it.
func TestDealOfSmallOnes(t *testing.T) {
	for amount := range int64(15) {
		for i := int64(1); i < 6*6*6; i++ {
			weights := []int64{i / 36, i / 6 % 6, i % 6}
			wantShares(t, amount, weights, plainShares(amount, weights))
		}
	}
}

// P11.2: too many weights are told, ahead of all.
func TestDealByTooMany(t *testing.T) {
	for _, many := range []int{65, 66, 100, 1000, 100_000} {
		for _, weight := range []int64{0, 1, most, -1, most + 1, math.MinInt64} {
			wantNoShares(t, 5, repeat(weight, many), api.ErrLong)
			wantNoShares(t, -1, repeat(weight, many), api.ErrLong)
		}
	}
}

// P11.2: no weights, one that may not be, only noughts are told, ahead of an amount.
func TestDealByWrongWeights(t *testing.T) {
	wrong := [][]int64{nil, {}, {0}, {0, 0}, repeat(0, 64), {-1}, {1, -1}, {-1, 1}, {-1, 2}, {5, -5}, {5, 5, -1, 5}, {0, 0, -1}, {most + 1}, {1, most + 1}, {most + 1, 1}, {math.MaxInt64, math.MaxInt64, 2}, {math.MinInt64, math.MinInt64}, {math.MinInt64, math.MaxInt64, 1}, append(repeat(1, 63), -1)}
	for _, n := range append(wrongAmounts(), below()...) {
		wrong = append(wrong, []int64{n}, []int64{n, 1}, []int64{1, n}, []int64{n, -n, 1}, []int64{1, n, 1})
	}
	for _, weights := range wrong {
		for _, amount := range []int64{0, 1, 100, most, -1, most + 1, math.MinInt64, math.MaxInt64} {
			wantNoShares(t, amount, weights, api.ErrArg)
		}
	}
}

// P11.2: an amount that may not be, or below 0, is told.
func TestDealOfWrongAmounts(t *testing.T) {
	for _, amount := range append(wrongAmounts(), below()...) {
		for _, weights := range [][]int64{{1}, {1, 1, 1}, {0, 9}, {most}, repeat(most, 64)} {
			wantNoShares(t, amount, weights, api.ErrMoney)
		}
	}
}

// P11.2: shares are in new memory.
func TestDealIsTheCallers(t *testing.T) {
	weights := []int64{2, 3}
	l, _ := fare.Deal(5, weights...)
	if l[0], l[1] = 8, 9; weights[0] != 2 || weights[1] != 3 {
		t.Errorf("the weights are %v", weights)
	}
	wantShares(t, 5, weights, []int64{2, 3})
}
