package number_test

import (
	"math"
	"testing"

	"coupon/api"
	"coupon/number"
)

// stocks that may be: of one serial, of few, of all.
func stocks() []api.Stock {
	return []api.Stock{
		{Carrier: 123, First: 0, Count: 1}, {Carrier: 100, First: 0, Count: 20}, {Carrier: 999, First: 999_999_999, Count: 1}, {Carrier: 123, First: 999_999_998, Count: 2}, {Carrier: 123, First: 999_999_900, Count: 100},
		{Carrier: 124, First: 7, Count: 3}, {Carrier: 500, First: 123_456_789, Count: 50}, {Carrier: 100, First: 0, Count: 1_000_000_000}, {Carrier: 999, First: 1, Count: 999_999_999}, {Carrier: 321, First: 500_000_000, Count: 500_000_000},
	}
}

// wrongStocks may not be.
func wrongStocks() []api.Stock {
	l := []api.Stock{
		{}, {Carrier: 123}, {Carrier: 123, First: 5}, {Count: 5}, {First: 5, Count: 5}, {First: 999_999_999, Count: 1},
		{Carrier: 123, First: 0, Count: 1_000_000_001}, {Carrier: 123, First: 1, Count: 1_000_000_000}, {Carrier: 123, First: 999_999_999, Count: 2}, {Carrier: 123, First: 999_999_998, Count: 3}, {Carrier: 123, First: 1_000_000_000, Count: 1}, {Carrier: 123, First: 1_000_000_000, Count: 0},
		{Carrier: 123, First: 1_000_000_001, Count: 1}, {Carrier: 123, First: 0, Count: math.MaxInt}, {Carrier: 123, First: 1, Count: math.MaxInt}, {Carrier: 123, First: 999_999_999, Count: math.MaxInt}, {Carrier: 123, First: math.MaxInt, Count: 1}, {Carrier: 123, First: math.MaxInt, Count: 2}, {Carrier: 123, First: math.MaxInt, Count: math.MaxInt},
		{Carrier: 123, First: -1, Count: 1}, {Carrier: 123, First: -1, Count: 5}, {Carrier: 123, First: -5, Count: 10}, {Carrier: 123, First: -1, Count: math.MaxInt}, {Carrier: 123, First: math.MinInt, Count: 1}, {Carrier: 123, First: math.MinInt, Count: math.MaxInt}, {Carrier: 123, First: math.MinInt, Count: math.MinInt},
		{Carrier: 123, First: 5, Count: -1}, {Carrier: 123, First: 0, Count: math.MinInt}, {Carrier: 123, First: 999_999_999, Count: math.MinInt}, {Carrier: 123, First: math.MaxInt, Count: math.MinInt},
	}
	for _, carrier := range wrongCarriers() {
		l = append(l, api.Stock{Carrier: carrier, First: 5, Count: 5})
	}
	return l
}

// P10.2: a locator has six letters.
func TestLocator(t *testing.T) {
	for _, s := range []string{"AZ2345", "ABCDEF", "ZZZZZZ", "AAAAAA", "222222", "999999", "A2Z9B8", "29AZ92", "OILSBG", "345678", "IOIOIO"} {
		if !number.Locator(s) {
			t.Errorf("%q is none", s)
		}
	}
	for _, s := range []string{"", "A", "2", "AZ234", "AZ23456", "AZ2345AZ2345", "AZ2345 ", " AZ2345", "AZ2345\n", "AZ 345", "AZ1345", "AZ0345", "az2345", "AZ2345\x00", "AZ234é", "AZ23é", "AZ234ÀA", "ÀZ2345", "\u0391Z2345", "\u0391Z234", "\uff21\uff21", "\uff21\uff21\uff21\uff21\uff21\uff21", "\u0662\u0662\u0662", "AAAAA\xff", "\xff\xff\xff\xff\xff\xff", "AAA\xe2\x82", "      ", "------"} {
		if number.Locator(s) {
			t.Errorf("%q is one", s)
		}
	}
}

// P10.2: each letter of a locator is of A to Z, 2 to 9.
func TestLocatorEachByte(t *testing.T) {
	for at := range 6 {
		for c := range 256 {
			s := []byte("AZ29KM")
			s[at] = byte(c)
			want := c >= 'A' && c <= 'Z' || c >= '2' && c <= '9'
			if is := number.Locator(string(s)); is != want {
				t.Errorf("Locator(%q) is %v", s, is)
			}
		}
	}
}

// P10.2: stocks that may be.
func TestMayStock(t *testing.T) {
	for _, s := range stocks() {
		if !number.MayStock(s) {
			t.Errorf("%v may not be", s)
		}
	}
	for _, carrier := range carriers() {
		for _, serial := range serials() {
			if s := (api.Stock{Carrier: carrier, First: serial, Count: 1_000_000_000 - serial}); !number.MayStock(s) {
				t.Errorf("%v may not be", s)
			} else if s.Count++; number.MayStock(s) {
				t.Errorf("%v may be", s)
			}
		}
	}
}

// P10.2, P0.6: of a stock that may not be there is no number, whatever is asked.
func TestStocksThatMayNotBe(t *testing.T) {
	for _, s := range wrongStocks() {
		if number.MayStock(s) {
			t.Errorf("%v may be", s)
		}
		for _, i := range []int{math.MinInt, -1, 0, 1, 4, 5, math.MaxInt} {
			if n, e := number.Nth(s, i); n != 0 || e != api.ErrArg {
				t.Errorf("Nth(%v, %d) is %d, %d", s, i, n, e)
			}
		}
		for i, n := range number.All(s) {
			t.Errorf("All(%v) goes over %d, %d", s, i, n)
			break
		}
		for _, carrier := range carriers() {
			for _, serial := range serials() {
				if number.In(s, plainNumber(plainText(carrier, serial))) {
					t.Errorf("%s is in %v", plainText(carrier, serial), s)
				}
			}
		}
		for n := range wrongNumbers() {
			if number.In(s, n) {
				t.Errorf("%d is in %v", n, s)
			}
		}
	}
}

// P10.2: Nth is the number of the serial First + i; there are Count of them.
func TestNth(t *testing.T) {
	for _, s := range stocks() {
		for _, i := range []int{0, 1, 2, s.Count / 2, s.Count - 2, s.Count - 1} {
			if i < 0 || i >= s.Count {
				continue
			}
			n, e := number.Nth(s, i)
			if e != api.OK {
				t.Errorf("Nth(%v, %d): %d", s, i, e)
			}
			wantNumber(t, n, s.Carrier, s.First+i)
		}
		for _, i := range []int{math.MinInt, math.MinInt32, -s.Count, -s.First - 1, -1, s.Count, s.Count + 1, 2*s.Count + 1, 1_000_000_000, math.MaxInt32, math.MaxInt - s.First, math.MaxInt} {
			if n, e := number.Nth(s, i); n != 0 || e != api.ErrStock {
				t.Errorf("Nth(%v, %d) is %d, %d", s, i, n, e)
			}
		}
	}
}

// some of a stock's numbers, at most so many, as All goes over them.
func some(t *testing.T, s api.Stock, most int) []uint64 {
	t.Helper()
	var l []uint64
	for i, n := range number.All(s) {
		if i != len(l) {
			t.Errorf("All(%v): %d behind %d others", s, i, len(l))
		}
		if l = append(l, n); len(l) >= most {
			break
		}
	}
	return l
}

// P10.2: All goes over a stock's numbers, in their order, each once.
func TestAll(t *testing.T) {
	for _, s := range stocks() {
		const most = 1000
		l := some(t, s, most)
		if len(l) != min(s.Count, most) {
			t.Errorf("All(%v) goes over %d", s, len(l))
		}
		for i, n := range l {
			wantNumber(t, n, s.Carrier, s.First+i)
		}
	}
}

// P10.2: All may be left at any time, and gone through as often as one likes, within itself, too.
func TestAllIsLeft(t *testing.T) {
	s := api.Stock{Carrier: 123, First: 70, Count: 9}
	all := number.All(s)
	for leave := range 12 {
		behind := 0
		for i, n := range all {
			if i != behind || i >= s.Count {
				t.Fatalf("%d behind %d others", i, behind)
			}
			wantNumber(t, n, 123, 70+i)
			if behind++; behind == leave {
				break
			}
		}
		want := min(leave, 9)
		if leave == 0 {
			want = 9
		}
		if behind != want {
			t.Errorf("left behind %d: it went over %d", leave, behind)
		}
	}
	pairs := 0
	for i := range all {
		inner := 0
		for j := range all {
			if j != inner || j >= s.Count || i >= s.Count {
				t.Fatalf("%d behind %d others, within %d", j, inner, i)
			}
			inner++
			pairs++
		}
	}
	if pairs != 81 {
		t.Errorf("within itself it goes over %d", pairs)
	}
}

// P10.2: All goes on where the caller's stock is changed meanwhile.
func TestAllKeepsItsStock(t *testing.T) {
	s := api.Stock{Carrier: 123, First: 70, Count: 9}
	all := number.All(s)
	s.Carrier, s.First, s.Count = 124, 0, 1
	count := 0
	for i, n := range all {
		wantNumber(t, n, 123, 70+i)
		if count++; count > 9 {
			break
		}
	}
	if count != 9 {
		t.Errorf("it goes over %d", count)
	}
}

// P10.2: In are the ticket numbers of the stock's carrier, from the first serial to the last.
func TestIn(t *testing.T) {
	for _, s := range stocks() {
		for _, carrier := range append(carriers(), s.Carrier, s.Carrier-1, s.Carrier+1) {
			for _, serial := range append(serials(), s.First-1, s.First, s.First+1, s.First+s.Count-2, s.First+s.Count-1, s.First+s.Count, s.First+s.Count+1) {
				if carrier < 100 || carrier > 999 || serial < 0 || serial > 999_999_999 {
					continue
				}
				n := plainNumber(plainText(carrier, serial))
				want := carrier == s.Carrier && serial >= s.First && serial < s.First+s.Count
				if is := number.In(s, n); is != want {
					t.Errorf("In(%v, %d) is %v", s, n, is)
				}
			}
		}
	}
}

// P10.2, P0.6: what is no ticket number is in no stock.
func TestInOfNoNumber(t *testing.T) {
	for _, s := range stocks() {
		for n := range wrongNumbers() {
			if number.In(s, n) {
				t.Errorf("%d is in %v", n, s)
			}
		}
		right := plainNumber(plainText(s.Carrier, s.First))
		for digit := range uint64(10) {
			if n := right/10*10 + digit; number.In(s, n) != (n == right) {
				t.Errorf("In(%v, %d) is %v", s, n, n != right)
			}
		}
	}
	all := api.Stock{Carrier: 100, First: 0, Count: 1_000_000_000}
	if number.In(all, 0) || number.In(all, 5) {
		t.Errorf("0 or 5 is in %v", all)
	}
}
