package ticket_test

import (
	"encoding/binary"
	"math"
	"math/rand"
	"reflect"
	"regexp"
	"slices"
	"strconv"
	"testing"

	"coupon/api"
	"coupon/ticket"
)

// num is the ticket number of a carrier's serial.
func num(carrier, serial int) uint64 {
	parts := uint64(carrier)*1_000_000_000 + uint64(serial)
	return parts*10 + parts%7
}

// one is a ticket of one coupon, no tax, no event.
func one() api.Ticket {
	n := num(123, 1)
	return api.Ticket{
		Number: n, Locator: "ABC234", Issued: 5, Origin: n, First: n,
		Coupons: []api.Coupon{{Flight: 7, Day: 9, Value: 1000, Status: api.Open}},
	}
}

// rich is an exchange's ticket, that has all that a ticket may have, much of it at its bound.
func rich() api.Ticket {
	return api.Ticket{
		Number: num(123, 77), Locator: "AZ2923", Issued: 40,
		Coupons: []api.Coupon{
			{Flight: 1, Day: 50, Value: 10_000, Status: api.Control, Holder: 126},
			{Flight: 9999, Day: 60, Value: 0, Status: api.Exchanged, Next: num(123, 78)},
			{Flight: 345, Day: 0, Value: 1_234_567, Status: api.Flown},
			{Flight: 6789, Day: 1_000_000, Value: 1_000_000_000_000, Status: api.Suspended},
		},
		Taxes: []api.Tax{{Code: 1, Amount: 5}, {Code: 2, Amount: 0}, {Code: 50, Amount: 7000}, {Code: 99, Amount: 1_000_000_000_000}},
		Prev:  num(123, 5), Origin: num(456, 9), First: num(123, 76), Voucher: 1 << 50, Posts: 200,
		History: []api.Event{
			{Day: 40, Coupon: 3, From: api.Open, To: api.Checked},
			{Day: 41, Coupon: 1, From: api.Open, To: api.Control},
			{Day: 41, Coupon: 3, From: api.Checked, To: api.Lifted},
			{Day: 41, Coupon: 1, From: api.Control, To: api.Open},
			{Day: 50, Coupon: 3, From: api.Lifted, To: api.Flown},
			{Day: 50, Coupon: 4, From: api.Open, To: api.Suspended},
			{Day: 60, Coupon: 2, From: api.Open, To: api.Exchanged},
			{Day: 1_000_000, Coupon: 1, From: api.Open, To: api.Control},
		},
	}
}

// full is a ticket of so many events, of a coupon that is checked, and let go again.
func full(events int) api.Ticket {
	x := one()
	for i := range events {
		from, to := api.Open, api.Checked
		if i%2 > 0 {
			from, to = to, from
		}
		x.History = append(x.History, api.Event{Day: 5 + i/7, Coupon: 1, From: from, To: to})
		x.Coupons[0].Status = to
	}
	return x
}

// ones are tickets that may be.
func ones() []api.Ticket {
	l := []api.Ticket{one(), rich(), full(1), full(59), full(60)}
	by := rand.New(rand.NewSource(13))
	for range 30 {
		l = append(l, chance(by))
	}
	return l
}

// broken are tickets that may not be, by what is wrong with each.
func broken() map[string]api.Ticket {
	l := map[string]api.Ticket{"nothing": {}, "too many events": full(61)}
	for name, breaks := range faults() {
		x := rich()
		breaks(&x)
		l[name] = x
	}
	return l
}

// copied is the same ticket in memory that nobody else has; what its lists have no room for is nothing.
func copied(x api.Ticket) api.Ticket {
	x.Coupons = append([]api.Coupon(nil), x.Coupons...)
	x.Taxes = append([]api.Tax(nil), x.Taxes...)
	x.History = append([]api.Event(nil), x.History...)
	return x
}

// alike: are both the same in everything, nil and empty lists being one?
func alike(a, b api.Ticket) bool { return reflect.DeepEqual(copied(a), copied(b)) }

// plainBytes are a ticket's bytes, as the words say them.
func plainBytes(x api.Ticket) []byte {
	put := binary.BigEndian
	b := put.AppendUint64(nil, x.Number)
	b = append(b, x.Locator...)
	b = put.AppendUint32(b, uint32(x.Issued))
	for _, n := range []uint64{x.Prev, x.Origin, x.First, uint64(x.Voucher)} {
		b = put.AppendUint64(b, n)
	}
	b = append(b, byte(len(x.Coupons)))
	for _, c := range x.Coupons {
		b = put.AppendUint16(b, uint16(c.Flight))
		b = put.AppendUint32(b, uint32(c.Day))
		b = put.AppendUint64(b, uint64(c.Value))
		b = append(b, byte(c.Status))
		b = put.AppendUint16(b, uint16(c.Holder))
		b = put.AppendUint64(b, c.Next)
	}
	b = append(b, byte(len(x.Taxes)))
	for _, tax := range x.Taxes {
		b = put.AppendUint64(append(b, byte(tax.Code)), uint64(tax.Amount))
	}
	b = append(b, byte(x.Posts), byte(len(x.History)))
	for _, e := range x.History {
		b = append(put.AppendUint32(b, uint32(e.Day)), byte(e.Coupon), byte(e.From), byte(e.To))
	}
	return b
}

// fits: would its bytes tell it, may it be or not?
func fits(x api.Ticket) bool {
	in := func(n, most int) bool { return n >= 0 && n <= most }
	ok := len(x.Locator) == 6 && in(x.Issued, math.MaxUint32) && in(x.Posts, 255) && in(len(x.Coupons), 255) && in(len(x.Taxes), 255) && in(len(x.History), 255)
	for _, c := range x.Coupons {
		ok = ok && in(c.Flight, 65535) && in(c.Day, math.MaxUint32) && in(int(c.Status), 255) && in(c.Holder, 65535)
	}
	for _, tax := range x.Taxes {
		ok = ok && in(tax.Code, 255)
	}
	for _, e := range x.History {
		ok = ok && in(e.Day, math.MaxUint32) && in(e.Coupon, 255) && in(int(e.From), 255) && in(int(e.To), 255)
	}
	return ok
}

// plainNumber: is it a ticket number?
func plainNumber(n uint64) bool { return len(strconv.FormatUint(n, 10)) == 13 && n/10%7 == n%10 }

// leadsTo is layer 12's table: what each status leads to.
var leadsTo = map[api.Status][]api.Status{
	api.Open:    {api.Checked, api.Exchanged, api.Refunded, api.Void, api.Suspended, api.Control},
	api.Checked: {api.Open, api.Lifted}, api.Lifted: {api.Checked, api.Flown},
	api.Flown: nil, api.Exchanged: nil, api.Refunded: nil, api.Void: nil,
	api.Suspended: {api.Open, api.Refunded}, api.Control: {api.Open, api.Flown},
}

// plainWith: may a coupon of a ticket have that number with that status?
func plainWith(own uint64, s api.Status, with uint64) bool {
	switch s {
	case api.Control:
		return with >= 101 && with <= 1000 && with-1 != own/10_000_000_000
	case api.Exchanged:
		return plainNumber(with) && with != own
	}
	return with == 0
}

// plainLocator is what a locator is like.
var plainLocator = regexp.MustCompile(`\A[A-Z2-9]{6}\z`)

// plainMay: may it be, as the words say it?
func plainMay(x api.Ticket) bool {
	day := func(n int) bool { return n >= 0 && n <= 1_000_000 }
	cents := func(n int64) bool { return n >= 0 && n <= 1_000_000_000_000 }
	other := func(n uint64) bool { return plainNumber(n) && n != x.Number }
	ok := plainNumber(x.Number) && plainLocator.MatchString(x.Locator) && day(x.Issued)
	ok = ok && (x.Prev == 0 && x.Origin == x.Number || other(x.Prev) && other(x.Origin)) && plainNumber(x.First)
	ok = ok && x.Voucher >= 0 && x.Voucher <= 1<<50 && x.Posts >= 0 && x.Posts <= 200
	ok = ok && len(x.Coupons) >= 1 && len(x.Coupons) <= 4 && len(x.Taxes) <= 4 && len(x.History) <= 60
	for _, c := range x.Coupons {
		_, is := leadsTo[c.Status]
		ok = ok && is && c.Flight >= 1 && c.Flight <= 9999 && day(c.Day) && cents(c.Value)
		holder, next := uint64(0), uint64(0)
		if c.Status == api.Control {
			holder = uint64(c.Holder)
		} else {
			next = c.Next
		}
		ok = ok && uint64(c.Holder) == holder && c.Next == next && plainWith(x.Number, c.Status, holder+next)
	}
	for i, tax := range x.Taxes {
		ok = ok && tax.Code >= 1 && tax.Code <= 99 && cents(tax.Amount) && (i == 0 || tax.Code > x.Taxes[i-1].Code)
	}
	return ok && plainTells(x)
}

// plainTells: does its history tell it? Coupon by coupon.
func plainTells(x api.Ticket) bool {
	at, told := x.Issued, 0
	for _, e := range x.History {
		if e.Day < at || e.Day > 1_000_000 {
			return false
		}
		at = e.Day
	}
	for i, c := range x.Coupons {
		is := api.Open
		for _, e := range x.History {
			if e.Coupon != i+1 {
				continue
			}
			told++
			if e.From != is || !slices.Contains(leadsTo[is], e.To) {
				return false
			}
			is = e.To
		}
		if is != c.Status {
			return false
		}
	}
	return told == len(x.History)
}

// plainChange is what a change makes, as the words say it.
func plainChange(x api.Ticket, coupon, day int, to api.Status, with uint64) (api.Ticket, api.Errno) {
	if !plainMay(x) || coupon < 1 || coupon > len(x.Coupons) || !plainWith(x.Number, to, with) {
		return api.Ticket{}, api.ErrArg
	}
	x = copied(x)
	c := &x.Coupons[coupon-1]
	from := c.Status
	if !slices.Contains(leadsTo[from], to) {
		return api.Ticket{}, api.ErrState
	}
	for _, e := range append([]api.Event{{Day: x.Issued}}, x.History...) {
		if day < e.Day || day > 1_000_000 {
			return api.Ticket{}, api.ErrDay
		}
	}
	if len(x.History) == 60 {
		return api.Ticket{}, api.ErrFull
	}
	c.Status, c.Holder, c.Next = to, 0, 0
	if to == api.Control {
		c.Holder = int(with)
	}
	if to == api.Exchanged {
		c.Next = with
	}
	x.History = append(x.History, api.Event{Day: day, Coupon: coupon, From: from, To: to})
	return x, api.OK
}

// chance is a ticket by chance that may be.
func chance(by *rand.Rand) api.Ticket {
	carrier := 100 + by.Intn(900)
	n := num(carrier, 9+by.Intn(999_999_991))
	x := api.Ticket{Number: n, Locator: "QWERTY", Issued: by.Intn(1_000_001) >> by.Intn(20), Origin: n, First: n, Voucher: by.Int63n(1<<50 + 1), Posts: by.Intn(201)}
	if by.Intn(2) > 0 {
		x.Prev, x.Origin, x.First = num(carrier, 6), num(carrier, 7), num(carrier, 8)
	}
	for range 1 + by.Intn(4) {
		x.Coupons = append(x.Coupons, api.Coupon{Flight: 1 + by.Intn(9999), Day: by.Intn(1_000_001), Value: by.Int63n(1_000_000_000_001), Status: api.Open})
	}
	for code := range 4 {
		if by.Intn(2) > 0 {
			x.Taxes = append(x.Taxes, api.Tax{Code: 1 + code*24 + by.Intn(24), Amount: by.Int63n(1_000_000_000_001)})
		}
	}
	for range by.Intn(70) + by.Intn(2)*by.Intn(70) {
		x = step(by, x)
	}
	return x
}

// step is a ticket of which a coupon was changed by chance, if it could be.
func step(by *rand.Rand, x api.Ticket) api.Ticket {
	i := by.Intn(len(x.Coupons))
	next := leadsTo[x.Coupons[i].Status]
	if len(next) == 0 {
		return x
	}
	day := x.Issued
	if n := len(x.History); n > 0 {
		day = x.History[n-1].Day
	}
	to := next[by.Intn(len(next))]
	if by.Intn(3) > 0 {
		to = next[0]
	}
	y, e := plainChange(x, i+1, min(day+by.Intn(3), 1_000_000), to, withFor(by, x.Number, to))
	if e != api.OK {
		return x
	}
	return y
}

// withFor is a number by chance that may be, with that status.
func withFor(by *rand.Rand, own uint64, to api.Status) uint64 {
	for {
		with := uint64(0)
		switch to {
		case api.Control:
			with = 101 + uint64(by.Intn(900))
		case api.Exchanged:
			with = num(100+by.Intn(900), by.Intn(1_000_000_000))
		}
		if plainWith(own, to, with) {
			return with
		}
	}
}

// wantKept: the ticket is still what it was.
func wantKept(t *testing.T, what string, x, was api.Ticket) {
	t.Helper()
	if !alike(x, was) {
		t.Errorf("%s leaves %v, not %v", what, x, was)
	}
}

// wantNone: it is told that it may not be, by each call, whatever else they are asked; and its bytes are none's.
func wantNone(t *testing.T, what string, x api.Ticket) {
	t.Helper()
	was := copied(x)
	if ticket.May(x) {
		t.Errorf("%s: it may be", what)
	}
	if b, e := ticket.Bytes(x); len(b) != 0 || e != api.ErrArg {
		t.Errorf("%s: Bytes is %v, %d", what, b, e)
	}
	if fits(x) {
		if y, e := ticket.Of(plainBytes(x)); !alike(y, api.Ticket{}) || e != api.ErrBytes {
			t.Errorf("%s: Of its bytes is %v, %d", what, y, e)
		}
	}
	for _, day := range []int{-1, x.Issued, 1_000_000, 1_000_001} {
		if y, e := ticket.Change(x, 1, day, api.Checked, 0); !alike(y, api.Ticket{}) || e != api.ErrArg {
			t.Errorf("%s: Change is %v, %d", what, y, e)
		}
		if l := ticket.At(x, day); len(l) != 0 {
			t.Errorf("%s: At is %v", what, l)
		}
	}
	if v, w, tax, n := ticket.Value(x), ticket.Value(x, api.Open, api.Flown, api.Control), ticket.Taxes(x), ticket.Live(x); v != 0 || w != 0 || tax != 0 || n != 0 {
		t.Errorf("%s: Value is %d and %d, Taxes %d, Live %d", what, v, w, tax, n)
	}
	wantKept(t, what, x, was)
}

// wantSome: it may be, and its bytes are those, and are its.
func wantSome(t *testing.T, what string, x api.Ticket) {
	t.Helper()
	was := copied(x)
	if !ticket.May(x) {
		t.Errorf("%s: it may not be", what)
	}
	b, e := ticket.Bytes(x)
	if !slices.Equal(b, plainBytes(was)) || e != api.OK {
		t.Errorf("%s: Bytes is %v, %d, not %v", what, b, e, plainBytes(was))
	}
	given := plainBytes(was)
	if y, e := ticket.Of(given); !alike(y, was) || e != api.OK {
		t.Errorf("%s: Of its bytes is %v, %d, not %v", what, y, e, was)
	}
	if !slices.Equal(given, plainBytes(was)) {
		t.Errorf("%s: Of leaves other bytes", what)
	}
	wantKept(t, what, x, was)
}

// wantChange: the change is as the words say it, and leaves the ticket as it was.
func wantChange(t *testing.T, x api.Ticket, coupon, day int, to api.Status, with uint64, want api.Errno) api.Ticket {
	t.Helper()
	was := copied(x)
	model, told := plainChange(was, coupon, day, to, with)
	if told != want {
		t.Errorf("the words say %d of Change(%v, %d, %d, %d, %d), not %d", told, x, coupon, day, to, with, want)
	}
	y, e := ticket.Change(x, coupon, day, to, with)
	if e != want || !alike(y, model) {
		t.Errorf("Change(%v, %d, %d, %d, %d) is %v, %d, not %v, %d", x, coupon, day, to, with, y, e, model, want)
	}
	wantKept(t, "Change", x, was)
	return y
}
