package number_test

import (
	"math/rand"
	"testing"

	"coupon/api"
	"coupon/number"
)

// chance are carriers and serials by chance, the same ones in each run.
func chance(many int, do func(carrier, serial int)) {
	by := rand.New(rand.NewSource(10))
	for range many {
		do(100+by.Intn(900), by.Intn(1_000_000_000))
	}
}

// P10.3: a number is its parts', and its text's.
func TestNumberIsItsParts(t *testing.T) {
	chance(3000, func(carrier, serial int) {
		n, e := number.Make(carrier, serial)
		if e != api.OK {
			t.Fatalf("Make(%d, %d): %d", carrier, serial, e)
		}
		wantNumber(t, n, carrier, serial)
		if x, e := number.Make(number.Carrier(n), number.Serial(n)); x != n || e != api.OK {
			t.Errorf("the parts of %d make %d, %d", n, x, e)
		}
		if x, e := number.Of(number.Text(n)); x != n || e != api.OK {
			t.Errorf("the text of %d is %d's, %d", n, x, e)
		}
	})
}

// P10.3: a digit that is another one by other than 7 is told; by 7, where it is none of the first twelve.
func TestAnotherDigitIsTold(t *testing.T) {
	chance(500, func(carrier, serial int) {
		s := plainText(carrier, serial)
		for at := range 13 {
			for digit := byte('0'); digit <= '9'; digit++ {
				by := int(digit) - int(s[at])
				want := api.ErrDigit
				switch {
				case at == 0 && digit == '0':
					want = api.ErrArg
				case by == 0 || at < 12 && (by == 7 || by == -7):
					want = api.OK
				}
				x := s[:at] + string(rune(digit)) + s[at+1:]
				if e := number.Check(plainNumber(x)); e != want {
					t.Errorf("Check(%s) beside %s is %d, not %d", x, s, e, want)
				}
				if _, e := number.Of(x); e != want {
					t.Errorf("Of(%s) beside %s is %d, not %d", x, s, e, want)
				}
			}
		}
	})
}

// P10.2: a number is in a stock where, and only where, All and Nth tell it.
func TestInIsAll(t *testing.T) {
	by := rand.New(rand.NewSource(11))
	for range 300 {
		s := api.Stock{Carrier: 100 + by.Intn(4), First: by.Intn(40), Count: 1 + by.Intn(40)}
		in := map[uint64]int{}
		for i, n := range number.All(s) {
			if i >= s.Count {
				t.Fatalf("All(%v) goes over %d", s, i)
			}
			in[n] = i
			if x, e := number.Nth(s, i); x != n || e != api.OK {
				t.Errorf("Nth(%v, %d) is %d, %d, not %d", s, i, x, e, n)
			}
		}
		if len(in) != s.Count {
			t.Errorf("All(%v) goes over %d", s, len(in))
		}
		for carrier := 100; carrier < 104; carrier++ {
			for serial := range 90 {
				n := plainNumber(plainText(carrier, serial))
				if _, is := in[n]; number.In(s, n) != is {
					t.Errorf("In(%v, %d) is %v", s, n, !is)
				}
			}
		}
	}
}
