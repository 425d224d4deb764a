package ticket_test

import (
	"math"
	"math/rand"
	"slices"
	"testing"

	"coupon/api"
	"coupon/number"
	"coupon/ticket"
)

// wrongStatuses may not be.
func wrongStatuses() []api.Status {
	return []api.Status{math.MinInt, -64, -1, 0, 10, 63, 64, 65, 255, 256, 257, 265, 1<<32 + 2, math.MaxInt}
}

// P13.2: the chapter's example: to Control, and back.
func TestChangeThereAndBack(t *testing.T) {
	x := wantChange(t, one(), 1, 9, api.Control, 126, api.OK)
	want := one()
	want.Coupons[0].Status, want.Coupons[0].Holder = api.Control, 126
	want.History = []api.Event{{Day: 9, Coupon: 1, From: api.Open, To: api.Control}}
	if !alike(x, want) {
		t.Errorf("it is %v, not %v", x, want)
	}
	x = wantChange(t, x, 1, 9, api.Open, 0, api.OK)
	want = one()
	want.History = []api.Event{{Day: 9, Coupon: 1, From: api.Open, To: api.Control}, {Day: 9, Coupon: 1, From: api.Control, To: api.Open}}
	if !alike(x, want) {
		t.Errorf("then it is %v, not %v", x, want)
	}
}

// P13.2: from each status to each other one, of each coupon of four.
func TestChangeByTheTable(t *testing.T) {
	by := rand.New(rand.NewSource(133))
	ways := map[api.Status][]api.Status{
		api.Open: nil, api.Checked: {api.Checked}, api.Lifted: {api.Checked, api.Lifted}, api.Flown: {api.Checked, api.Lifted, api.Flown},
		api.Exchanged: {api.Exchanged}, api.Refunded: {api.Refunded}, api.Void: {api.Void}, api.Suspended: {api.Suspended}, api.Control: {api.Control},
	}
	for from, way := range ways {
		for coupon := 1; coupon <= 4; coupon++ {
			x := one()
			x.Coupons = slices.Repeat(x.Coupons, 4)
			for _, s := range way {
				x = wantChange(t, x, coupon, 8, s, withFor(by, x.Number, s), api.OK)
			}
			for to := range ways {
				want := api.ErrState
				if slices.Contains(leadsTo[from], to) {
					want = api.OK
				}
				wantChange(t, x, coupon, 8, to, withFor(by, x.Number, to), want)
			}
		}
	}
}

// P13.2: coupons that there are not.
func TestChangeOfNoCoupon(t *testing.T) {
	for _, coupon := range []int{math.MinInt, -1, 0, 2, 3, 4, 5, 255, 256, 257, math.MaxInt} {
		wantChange(t, one(), coupon, 9, api.Checked, 0, api.ErrArg)
	}
	for _, coupon := range []int{-4, -1, 0, 5, 260} {
		wantChange(t, rich(), coupon, 1_000_000, api.Open, 0, api.ErrArg)
	}
}

// P13.2: numbers that are told with a status, those that may be, and those that may not.
func TestChangeWith(t *testing.T) {
	for _, with := range []uint64{101, 102, 123, 125, 126, 999, 1000} {
		if x := wantChange(t, one(), 1, 9, api.Control, with, api.OK); x.Coupons[0].Holder != int(with) {
			t.Errorf("the holder is %d, not %d", x.Coupons[0].Holder, with)
		}
	}
	for _, with := range []uint64{0, 1, 99, 100, 124, 1001, 1002, 65536 + 126, 1<<32 + 126, 1<<63 + 126, math.MaxUint64, num(125, 1)} {
		wantChange(t, one(), 1, 9, api.Control, with, api.ErrArg)
	}
	for _, with := range []uint64{num(123, 0), num(123, 2), num(100, 0), num(999, 999_999_999)} {
		if x := wantChange(t, one(), 1, 9, api.Exchanged, with, api.OK); x.Coupons[0].Next != with {
			t.Errorf("the next is %d, not %d", x.Coupons[0].Next, with)
		}
	}
	for _, with := range append(wrongNumbers(), one().Number) {
		wantChange(t, one(), 1, 9, api.Exchanged, with, api.ErrArg)
	}
	for _, to := range []api.Status{api.Checked, api.Refunded, api.Void, api.Suspended} {
		wantChange(t, one(), 1, 9, to, 0, api.OK)
		for _, with := range []uint64{1, 126, num(123, 2), math.MaxUint64} {
			wantChange(t, one(), 1, 9, to, with, api.ErrArg)
		}
	}
}

// P13.2: by the own carrier a holder is told, whatever the carrier.
func TestChangeToTheOwnCarrier(t *testing.T) {
	for carrier := 100; carrier < 1000; carrier += 31 {
		x := one()
		x.Number = num(carrier, 4)
		x.Origin = x.Number
		if number.Carrier(x.Number) != carrier {
			t.Fatalf("%d is not of %d", x.Number, carrier)
		}
		for with := 100; with <= 1001; with++ {
			want := api.OK
			if with < 101 || with > 1000 || with == carrier+1 {
				want = api.ErrArg
			}
			if _, e := ticket.Change(x, 1, 9, api.Control, uint64(with)); e != want {
				t.Errorf("Change to Control with %d, of %d, is %d", with, carrier, e)
			}
		}
	}
}

// P13.2: a status that may not be is one that nothing leads to; a number with it is one that is not 0 where it would be nothing.
func TestChangeToWrongStatuses(t *testing.T) {
	for _, to := range wrongStatuses() {
		for _, x := range []api.Ticket{one(), full(1), full(60)} {
			wantChange(t, x, 1, 20, to, 0, api.ErrState)
			wantChange(t, x, 1, 20, to, 126, api.ErrArg)
			wantChange(t, x, 1, 20, to, num(123, 2), api.ErrArg)
		}
	}
}

// P13.2: days: of the issue, of the last event, MaxDay, and those ahead, and behind.
func TestChangeOnDays(t *testing.T) {
	for day, want := range map[int]api.Errno{
		math.MinInt: api.ErrDay, -1: api.ErrDay, 0: api.ErrDay, 4: api.ErrDay, 5: api.OK, 6: api.OK, 999_999: api.OK, 1_000_000: api.OK, 1_000_001: api.ErrDay, 1<<32 + 6: api.ErrDay, math.MaxInt: api.ErrDay,
	} {
		wantChange(t, one(), 1, day, api.Checked, 0, want)
	}
	x := wantChange(t, one(), 1, 8, api.Checked, 0, api.OK)
	for day, want := range map[int]api.Errno{4: api.ErrDay, 5: api.ErrDay, 7: api.ErrDay, 8: api.OK, 9: api.OK, 1_000_000: api.OK, 1_000_001: api.ErrDay} {
		wantChange(t, x, 1, day, api.Lifted, 0, want)
	}
	x = rich()
	wantChange(t, x, 4, 999_999, api.Open, 0, api.ErrDay)
	wantChange(t, x, 4, 1_000_000, api.Open, 0, api.OK)
	x = one()
	x.Issued = 0
	wantChange(t, x, 1, 0, api.Checked, 0, api.OK)
	wantChange(t, x, 1, -1, api.Checked, 0, api.ErrDay)
}

// P13.2: room for MaxHistory events.
func TestChangeWhereItIsFull(t *testing.T) {
	for _, n := range []int{0, 1, 57, 58, 59} {
		x := full(n)
		to := leadsTo[x.Coupons[0].Status][0]
		if y := wantChange(t, x, 1, 30, to, 0, api.OK); len(y.History) != n+1 {
			t.Errorf("behind %d events there are %d", n, len(y.History))
		}
	}
	wantChange(t, full(60), 1, 30, api.Checked, 0, api.ErrFull)
	wantChange(t, full(60), 1, 30, api.Control, 126, api.ErrFull)
	wantChange(t, full(60), 1, 30, api.Exchanged, num(123, 2), api.ErrFull)
}

// P13.2: of several errors the first one is told.
func TestChangeTellsTheFirstError(t *testing.T) {
	x := full(60)
	wantChange(t, x, 1, 1_000_001, api.Checked, 0, api.ErrDay)
	wantChange(t, x, 1, 12, api.Checked, 0, api.ErrDay)
	for _, day := range []int{12, 30, 1_000_001} {
		wantChange(t, x, 1, day, api.Flown, 0, api.ErrState)
		wantChange(t, x, 1, day, api.Open, 0, api.ErrState)
		wantChange(t, x, 1, day, api.Flown, 1, api.ErrArg)
		wantChange(t, x, 1, day, api.Control, 124, api.ErrArg)
		wantChange(t, x, 1, day, api.Exchanged, x.Number, api.ErrArg)
		wantChange(t, x, 2, day, api.Flown, 0, api.ErrArg)
	}
	x.Posts = 201
	wantChange(t, x, 1, 12, api.Flown, 0, api.ErrArg)
	wantChange(t, one(), 1, 4, api.Lifted, 0, api.ErrState)
	wantChange(t, rich(), 3, 0, api.Control, 126, api.ErrState)
	wantChange(t, rich(), 3, 0, api.Control, 124, api.ErrArg)
}

// P13.2: what is answered, and what was handed in, share nothing.
func TestChangeSharesNothing(t *testing.T) {
	for _, x := range []api.Ticket{rich(), roomy(rich())} {
		want, _ := plainChange(rich(), 4, 1_000_000, api.Open, 0)
		y, _ := ticket.Change(x, 4, 1_000_000, api.Open, 0)
		z, _ := ticket.Change(x, 4, 1_000_000, api.Refunded, 0)
		_ = append(y.Coupons, api.Coupon{Flight: 1})
		_ = append(y.Taxes, api.Tax{Code: 1})
		_ = append(y.History, api.Event{Day: 1})
		wantKept(t, "another change", y, want)
		scribble(&z)
		wantKept(t, "another's lists", x, rich())
		wantKept(t, "another's lists", y, want)
		scribble(&x)
		wantKept(t, "what was handed in", y, want)
	}
}
