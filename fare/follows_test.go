package fare_test

import (
	"math/big"
	"math/rand"
	"slices"
	"testing"

	"coupon/api"
	"coupon/fare"
)

// money is an amount of 0 or more by chance, of any size.
func money(by *rand.Rand) int64 { return by.Int63n(by.Int63n(most+1)>>by.Intn(41) + 1) }

// deals are amounts and weights by chance, the same ones in each run; some weights are noughts, some are equal.
func deals(many int, do func(amount int64, weights []int64)) {
	by := rand.New(rand.NewSource(11))
	for range many {
		weights := make([]int64, 1+by.Intn(64))
		for i := range weights {
			switch by.Intn(4) {
			case 0:
			case 1:
				weights[i] = weights[by.Intn(len(weights))]
			default:
				weights[i] = money(by)
			}
		}
		weights[by.Intn(len(weights))] = money(by) + 1
		for i := range weights {
			weights[i] = min(weights[i], most)
		}
		do(money(by), weights)
	}
}

// dealt are the shares of a deal that may be.
func dealt(t *testing.T, amount int64, weights []int64) []int64 {
	t.Helper()
	l, e := fare.Deal(amount, weights...)
	if e != api.OK || len(l) != len(weights) {
		t.Fatalf("Deal(%d, %v): %v, %d", amount, weights, l, e)
	}
	return l
}

// P11.2, P11.4: shares by chance are what the words say.
func TestDealByChance(t *testing.T) {
	deals(5000, func(amount int64, weights []int64) {
		wantShares(t, amount, weights, plainShares(amount, weights))
	})
}

// P11.4: shares are together the amount, each its exact share, rounded down or up.
func TestSharesAreTheAmount(t *testing.T) {
	deals(3000, func(amount int64, weights []int64) {
		shares := dealt(t, amount, weights)
		if n, e := fare.Sum(shares...); n != amount || e != api.OK {
			t.Errorf("the shares of %d are together %d, %d", amount, n, e)
		}
		all := new(big.Int)
		for _, w := range weights {
			all.Add(all, big.NewInt(w))
		}
		for i, w := range weights {
			exact := new(big.Int).Mul(big.NewInt(amount), big.NewInt(w))
			beside := exact.Sub(exact, new(big.Int).Mul(big.NewInt(shares[i]), all))
			if beside.CmpAbs(all) >= 0 {
				t.Errorf("Deal(%d, %v): the share %d is %d", amount, weights, i, shares[i])
			}
		}
	})
}

// P11.4: a lesser weight has no greater share, of equal ones the first one has no lesser.
func TestLesserWeights(t *testing.T) {
	deals(2000, func(amount int64, weights []int64) {
		shares := dealt(t, amount, weights)
		for i := range weights {
			for j := range weights {
				if weights[i] < weights[j] && shares[i] > shares[j] || weights[i] == weights[j] && i < j && (shares[i] < shares[j] || shares[i] > shares[j]+1) {
					t.Fatalf("Deal(%d, %v) is %v", amount, weights, shares)
				}
			}
		}
	})
}

// P11.4: a weight of 0 has none, and takes nothing from the others.
func TestNoughts(t *testing.T) {
	deals(2000, func(amount int64, weights []int64) {
		shares := dealt(t, amount, weights)
		var others, theirs []int64
		for i, w := range weights {
			if w > 0 {
				others, theirs = append(others, w), append(theirs, shares[i])
			} else if shares[i] != 0 {
				t.Errorf("Deal(%d, %v) is %v", amount, weights, shares)
			}
		}
		if l := dealt(t, amount, others); !slices.Equal(l, theirs) {
			t.Errorf("Deal(%d, %v) is %v, with noughts between %v", amount, others, l, theirs)
		}
	})
}

// P11.4: it is the same whether all weights are doubled.
func TestDoubled(t *testing.T) {
	deals(2000, func(amount int64, weights []int64) {
		var half, whole []int64
		for _, w := range weights {
			half, whole = append(half, (w+1)/2), append(whole, (w+1)/2*2)
		}
		if a, b := dealt(t, amount, half), dealt(t, amount, whole); !slices.Equal(a, b) {
			t.Errorf("Deal(%d, %v) is %v, doubled %v", amount, half, a, b)
		}
	})
}

// P11.1: an amount is its text's, by chance.
func TestAmountIsItsTexts(t *testing.T) {
	by := rand.New(rand.NewSource(111))
	for range 20_000 {
		n := money(by) - money(by)
		if s := fare.Text(n); s != plainText(n) {
			t.Fatalf("Text(%d) is %q", n, s)
		}
		wantOf(t, plainText(n), n, api.OK)
	}
}

// P11.1: Sum by chance is the plain sum, whatever order they come in.
func TestSumByChance(t *testing.T) {
	by := rand.New(rand.NewSource(112))
	for range 2000 {
		l := make([]int64, by.Intn(1001))
		sum := int64(0)
		for i := range l {
			l[i] = money(by) - money(by)
			sum += l[i]
		}
		e := api.OK
		if sum < -most || sum > most {
			sum, e = 0, api.ErrMoney
		}
		wantSum(t, sum, e, l...)
		slices.Sort(l)
		wantSum(t, sum, e, l...)
	}
}

// P11.4: what is taken, and what is left, are together what there was.
func TestTakenAndLeft(t *testing.T) {
	by := rand.New(rand.NewSource(113))
	for range 20_000 {
		have, want := money(by), money(by)
		taken, left, e := fare.Take(have, want)
		if e != api.OK || taken+left != have || taken > want || left > 0 && taken != want {
			t.Errorf("Take(%d, %d) is %d, %d, %d", have, want, taken, left, e)
		}
	}
}
