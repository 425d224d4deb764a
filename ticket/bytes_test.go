package ticket_test

import (
	"bytes"
	"math/rand"
	"slices"
	"testing"

	"coupon/api"
	"coupon/ticket"
)

// oneBytes are the bytes of the one ticket, written out.
func oneBytes() []byte {
	own := []byte{0, 0, 1, 30, 97, 182, 140, 14} // 1230000000014
	b := append(slices.Clone(own), 'A', 'B', 'C', '2', '3', '4', 0, 0, 0, 5)
	b = append(b, 0, 0, 0, 0, 0, 0, 0, 0)
	b = append(append(b, own...), own...)
	b = append(b, 0, 0, 0, 0, 0, 0, 0, 0)
	b = append(b, 1, 0, 7, 0, 0, 0, 9, 0, 0, 0, 0, 0, 0, 3, 232, 1, 0, 0, 0, 0, 0, 0, 0, 0, 0, 0)
	return append(b, 0, 0, 0)
}

// P13.1: the chapter's example: one coupon, no tax, no event.
func TestBytesWrittenOut(t *testing.T) {
	b, e := ticket.Bytes(one())
	if len(b) != 79 || !bytes.Equal(b, oneBytes()) || e != api.OK {
		t.Errorf("Bytes is %v, %d, not %v", b, e, oneBytes())
	}
	if x, e := ticket.Of(oneBytes()); !alike(x, one()) || e != api.OK {
		t.Errorf("Of is %v, %d", x, e)
	}
}

// P13.1: how long the bytes are, and where each part stands, written out.
func TestPlacesOfParts(t *testing.T) {
	b, e := ticket.Bytes(rich())
	if e != api.OK || len(b) != 51+4*25+1+4*9+2+8*7 {
		t.Fatalf("%d bytes, %d", len(b), e)
	}
	for _, part := range []struct {
		at   int
		want []byte
	}{
		{8, []byte("AZ2923")}, {14, []byte{0, 0, 0, 40}},
		{42, []byte{0, 4, 0, 0, 0, 0, 0, 0}}, {50, []byte{4}},
		{51, []byte{0, 1, 0, 0, 0, 50, 0, 0, 0, 0, 0, 0, 39, 16, 9, 0, 126}},
		{76, []byte{39, 15, 0, 0, 0, 60, 0, 0, 0, 0, 0, 0, 0, 0, 5, 0, 0}},
		{101, []byte{1, 89, 0, 0, 0, 0, 0, 0, 0, 0, 0, 18, 214, 135, 4, 0, 0, 0, 0, 0, 0, 0, 0, 0, 0}},
		{126, []byte{26, 133, 0, 15, 66, 64, 0, 0, 0, 232, 212, 165, 16, 0, 8}},
		{151, []byte{4, 1, 0, 0, 0, 0, 0, 0, 0, 5, 2, 0, 0, 0, 0, 0, 0, 0, 0, 50}},
		{188, []byte{200, 8, 0, 0, 0, 40, 3, 1, 2, 0, 0, 0, 41, 1, 1, 9}},
		{239, []byte{0, 15, 66, 64, 1, 1, 9}},
	} {
		if !bytes.Equal(b[part.at:part.at+len(part.want)], part.want) {
			t.Errorf("at %d stands %v, not %v", part.at, b[part.at:part.at+len(part.want)], part.want)
		}
	}
	for at, n := range map[int]uint64{0: num(123, 77), 18: num(123, 5), 26: num(456, 9), 34: num(123, 76), 76 + 17: num(123, 78)} {
		got := uint64(0)
		for _, c := range b[at : at+8] {
			got = got<<8 | uint64(c)
		}
		if got != n {
			t.Errorf("at %d stands %d, not %d", at, got, n)
		}
	}
}

// wantNoTicket: bytes are none's.
func wantNoTicket(t *testing.T, what string, b []byte) {
	t.Helper()
	if x, e := ticket.Of(b); !alike(x, api.Ticket{}) || e != api.ErrBytes {
		t.Errorf("%s: Of(%v) is %v, %d", what, b, x, e)
	}
}

// P13.1: bytes that are cut off, or go on, or are none.
func TestOfLessOrMore(t *testing.T) {
	for _, x := range []api.Ticket{one(), rich(), full(60)} {
		b := plainBytes(x)
		for n := range len(b) {
			wantNoTicket(t, "cut off", b[:n])
			wantNoTicket(t, "begun late", b[n+1:])
		}
		for _, more := range [][]byte{{0}, {1}, {0, 0, 0, 0, 0, 0, 0}, b} {
			wantNoTicket(t, "more", slices.Concat(b, more))
		}
	}
	wantNoTicket(t, "nothing", nil)
	wantNoTicket(t, "noughts", make([]byte, 79))
	wantNoTicket(t, "ones", bytes.Repeat([]byte{255}, 10_000))
	wantNoTicket(t, "much", make([]byte, 1<<20))
}

// P13.1, P13.4: whatever one byte is, the bytes are a ticket's that may be, and that has just these, or none's.
func TestOfEachByte(t *testing.T) {
	for _, x := range []api.Ticket{one(), rich()} {
		b := plainBytes(x)
		for i := range b {
			for c := range 256 {
				other := slices.Clone(b)
				other[i] = byte(c)
				y, e := ticket.Of(other)
				if e != api.OK {
					wantNoTicket(t, "another byte", other)
					continue
				}
				if !plainMay(y) || !bytes.Equal(plainBytes(y), other) {
					t.Fatalf("Of(%v) is %v", other, y)
				}
				if back, e := ticket.Bytes(y); !bytes.Equal(back, other) || e != api.OK {
					t.Fatalf("Bytes of Of(%v) is %v, %d", other, back, e)
				}
			}
		}
	}
}

// P0.6: Of of bytes by chance neither panics, nor takes what is none's.
func TestOfByChance(t *testing.T) {
	by := rand.New(rand.NewSource(132))
	for range 20_000 {
		b := make([]byte, by.Intn(300))
		by.Read(b)
		wantNoTicket(t, "by chance", b)
	}
}

// P13.1: what is answered, and what was handed in, share nothing.
func TestBytesAreTheCallers(t *testing.T) {
	x := rich()
	first, _ := ticket.Bytes(x)
	clear(first)
	wantKept(t, "Bytes", x, rich())
	if b, _ := ticket.Bytes(x); !bytes.Equal(b, plainBytes(rich())) {
		t.Errorf("then Bytes is %v", b)
	}
	given := plainBytes(rich())
	y, _ := ticket.Of(given)
	clear(given)
	wantKept(t, "Of", y, rich())
	scribble(&y)
	if z, e := ticket.Of(plainBytes(rich())); !alike(z, rich()) || e != api.OK {
		t.Errorf("then Of is %v, %d", z, e)
	}
}

// P13.1, P13.4: the lists that Of answers grow apart.
func TestOfsListsGrowApart(t *testing.T) {
	x, _ := ticket.Of(plainBytes(rich()))
	_ = append(x.Coupons, api.Coupon{Flight: 1})
	_ = append(x.Taxes, api.Tax{Code: 1})
	_ = append(x.History, api.Event{Day: 1})
	wantKept(t, "growing lists", x, rich())
}
