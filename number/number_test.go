package number_test

import (
	"fmt"
	"strings"
	"testing"

	"coupon/api"
	"coupon/number"
)

// P10.1, P10.3: Make is the number of its parts, whose digits are told.
func TestMake(t *testing.T) {
	for _, carrier := range carriers() {
		for _, serial := range serials() {
			n, e := number.Make(carrier, serial)
			if e != api.OK {
				t.Errorf("Make(%d, %d): %d", carrier, serial, e)
			}
			wantNumber(t, n, carrier, serial)
		}
	}
}

// P10.1: numbers written out.
func TestMakeWrittenOut(t *testing.T) {
	for _, x := range []struct {
		carrier, serial int
		n               uint64
	}{
		{100, 0, 1000000000005}, {100, 1, 1000000000016}, {100, 2, 1000000000020}, {123, 0, 1230000000003}, {123, 1, 1230000000014},
		{123, 123456789, 1231234567894}, {999, 999999998, 9999999999986}, {999, 999999999, 9999999999990},
	} {
		if n, e := number.Make(x.carrier, x.serial); n != x.n || e != api.OK {
			t.Errorf("Make(%d, %d) is %d, %d", x.carrier, x.serial, n, e)
		}
	}
}

// P10.1, P0.6: Make of a carrier, of a serial, of both that may not be.
func TestMakeOfWhatMayNotBe(t *testing.T) {
	wrong := func(carrier, serial int) {
		if n, e := number.Make(carrier, serial); n != 0 || e != api.ErrArg {
			t.Errorf("Make(%d, %d) is %d, %d", carrier, serial, n, e)
		}
	}
	for _, carrier := range wrongCarriers() {
		for _, serial := range append(serials(), wrongSerials()...) {
			wrong(carrier, serial)
		}
	}
	for _, serial := range wrongSerials() {
		for _, carrier := range carriers() {
			wrong(carrier, serial)
		}
	}
}

// P10.1, P0.6: what is no ticket number is told, and has no parts, no text.
func TestNoNumbers(t *testing.T) {
	for n, why := range wrongNumbers() {
		wantNone(t, n, why)
	}
}

// P10.1, P10.3: of the ten numbers of twelve digits one is right.
func TestOneOfTenIsRight(t *testing.T) {
	for _, carrier := range carriers() {
		for _, serial := range serials() {
			right, e := number.Make(carrier, serial)
			if e != api.OK {
				t.Fatalf("Make(%d, %d): %d", carrier, serial, e)
			}
			for digit := range uint64(10) {
				if n := right/10*10 + digit; n != right {
					wantNone(t, n, api.ErrDigit)
				}
			}
		}
	}
}

// P10.1: Of what is right is told apart by TestMake; here what is not just 13 digits.
func TestOfWhatIsNotThirteenDigits(t *testing.T) {
	long := plainText(123, 1)
	texts := []string{"", " ", "0", "7", "-1", "\x00", long + " ", " " + long, long + "\n", "\n" + long[1:], "+" + long, "-" + long, "+" + long[1:], "-" + long[1:], long + long, strings.Repeat("1", 1_000_000),
		"123 000000001", "123-000000001", "0x12300000001", "1_230_000_0014", "1.23000000001", "12300000000é", "é23000000001", "123000000000é", "\u0661\u0662\u0663\u0660\u0660\u0660\u0660\u0660\u0660\u0660\u0660\u0661\u0664", "\uff11\uff12\uff13\uff10 ", "12300000000\xff\xff", "\xff\xff\xff\xff\xff\xff\xff\xff\xff\xff\xff\xff\xff", "0000000000000x", "x000000000000", "000000000000x"}
	for n := range 20 {
		if n != 13 {
			texts = append(texts, strings.Repeat("1", n), strings.Repeat("0", n), strings.Repeat("9", n), strings.Repeat("0", n)+"x")
		}
	}
	for _, s := range texts {
		if n, e := number.Of(s); n != 0 || e != api.ErrBytes {
			t.Errorf("Of(%.40q) is %d, %d", s, n, e)
		}
	}
}

// P10.1: each of the 13 must be a digit, whatever the others tell.
func TestOfEachByte(t *testing.T) {
	for _, s := range []string{plainText(123, 1), "1230000000013", "0230000000014", "0000000000000"} {
		for at := range len(s) {
			for c := range 256 {
				if c >= '0' && c <= '9' {
					continue
				}
				x := s[:at] + string([]byte{byte(c)}) + s[at+1:]
				if n, e := number.Of(x); n != 0 || e != api.ErrBytes {
					t.Errorf("Of(%q) is %d, %d", x, n, e)
				}
			}
		}
	}
}

// P10.1: 13 digits that are no ticket number; the first one is told ahead of the last.
func TestOfDigitsThatAreNoNumber(t *testing.T) {
	for n, why := range wrongNumbers() {
		s := fmt.Sprintf("%013d", n)
		if len(s) > 13 {
			why = api.ErrBytes
		}
		if x, e := number.Of(s); x != 0 || e != why {
			t.Errorf("Of(%q) is %d, %d, not %d", s, x, e, why)
		}
	}
	for digit := range 10 { // one of them would be right
		s := "023000000001" + fmt.Sprint(digit)
		if x, e := number.Of(s); x != 0 || e != api.ErrArg {
			t.Errorf("Of(%q) is %d, %d", s, x, e)
		}
	}
}
