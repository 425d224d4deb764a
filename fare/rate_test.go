package fare_test

import (
	"math"
	"math/big"
	"testing"

	"coupon/api"
	"coupon/fare"
)

// wantRate: that rate of the amount is so much.
func wantRate(t *testing.T, amount int64, rate int, want int64, e api.Errno) {
	t.Helper()
	if n, got := fare.Rate(amount, rate); n != want || got != e {
		t.Errorf("Rate(%d, %d) is %d, %d, not %d, %d", amount, rate, n, got, want, e)
	}
}

// wantTaken: of what there is is taken so much, and so much is left.
func wantTaken(t *testing.T, have, want, taken, left int64, e api.Errno) {
	t.Helper()
	if x, y, got := fare.Take(have, want); x != taken || y != left || got != e {
		t.Errorf("Take(%d, %d) is %d, %d, %d, not %d, %d, %d", have, want, x, y, got, taken, left, e)
	}
}

// P11.3: rates written out.
func TestRate(t *testing.T) {
	wantRate(t, 999, 333, 33, api.OK)
	wantRate(t, 100, 5000, 50, api.OK)
	wantRate(t, 101, 5000, 50, api.OK)
	wantRate(t, 1, 9999, 0, api.OK)
	wantRate(t, 9999, 1, 0, api.OK)
	wantRate(t, 10_000, 1, 1, api.OK)
	wantRate(t, 10_001, 9999, 9999, api.OK)
	wantRate(t, 19_999, 1, 1, api.OK)
	wantRate(t, most, 1, 100_000_000, api.OK)
	wantRate(t, most, 9999, 999_900_000_000, api.OK)
	wantRate(t, most-1, 9999, 999_899_999_999, api.OK)
}

// P11.3: rates of amounts, as the words say it; none of it, and all.
func TestRateOfAmounts(t *testing.T) {
	for _, amount := range amounts() {
		for _, rate := range []int{0, 1, 2, 3, 333, 999, 1000, 2500, 3333, 4999, 5000, 5001, 7777, 9998, 9999, 10_000} {
			product := new(big.Int).Mul(big.NewInt(amount), big.NewInt(int64(rate)))
			wantRate(t, amount, rate, product.Div(product, big.NewInt(10_000)).Int64(), api.OK)
		}
		wantRate(t, amount, 0, 0, api.OK)
		wantRate(t, amount, 10_000, amount, api.OK)
	}
}

// P11.3: an amount that may not be, or below 0, is told, ahead of a rate; then a rate that may not be.
func TestWrongRates(t *testing.T) {
	wrong := []int{math.MinInt, math.MinInt32, -10_000, -333, -1, 10_001, 10_002, 20_000, math.MaxInt32, 1 << 32, 1<<32 + 333, math.MaxInt}
	for _, amount := range append(wrongAmounts(), below()...) {
		for _, rate := range append([]int{0, 333, 10_000}, wrong...) {
			wantRate(t, amount, rate, 0, api.ErrMoney)
		}
	}
	for _, amount := range amounts() {
		for _, rate := range wrong {
			wantRate(t, amount, rate, 0, api.ErrRange)
		}
	}
}

// P11.3: as much is taken as there is.
func TestTake(t *testing.T) {
	wantTaken(t, 5, 7, 5, 0, api.OK)
	wantTaken(t, 9, 2, 2, 7, api.OK)
	wantTaken(t, 9, 9, 9, 0, api.OK)
	wantTaken(t, 9, 0, 0, 9, api.OK)
	wantTaken(t, 0, 9, 0, 0, api.OK)
	wantTaken(t, 0, 0, 0, 0, api.OK)
	wantTaken(t, most, most, most, 0, api.OK)
	wantTaken(t, most, most-1, most-1, 1, api.OK)
	wantTaken(t, most-1, most, most-1, 0, api.OK)
	for _, have := range amounts() {
		for _, want := range amounts() {
			if want <= have {
				wantTaken(t, have, want, want, have-want, api.OK)
			} else {
				wantTaken(t, have, want, have, 0, api.OK)
			}
		}
	}
}

// P11.3: an amount that may not be, or below 0, is told, whichever it is.
func TestTakeOfWrongAmounts(t *testing.T) {
	for _, wrong := range append(wrongAmounts(), below()...) {
		for _, n := range append(amounts(), wrong, -1, most+1, math.MaxInt64) {
			wantTaken(t, wrong, n, 0, 0, api.ErrMoney)
			wantTaken(t, n, wrong, 0, 0, api.ErrMoney)
		}
	}
}
