package ticket_test

import (
	"testing"

	"coupon/api"
	"coupon/ticket"
)

// scribble makes all that stands in a ticket's lists nothing, up to where their room ends.
func scribble(x *api.Ticket) {
	clear(x.Coupons[:cap(x.Coupons)])
	clear(x.Taxes[:cap(x.Taxes)])
	clear(x.History[:cap(x.History)])
}

// differences change one thing each of a rich ticket.
func differences() map[string]func(*api.Ticket) {
	l := map[string]func(*api.Ticket){
		"number":        func(x *api.Ticket) { x.Number = num(123, 79) },
		"locator":       func(x *api.Ticket) { x.Locator = "AZ2924" },
		"issued":        func(x *api.Ticket) { x.Issued = 39 },
		"prev":          func(x *api.Ticket) { x.Prev = num(123, 6) },
		"origin":        func(x *api.Ticket) { x.Origin = num(456, 10) },
		"first":         func(x *api.Ticket) { x.First = num(123, 75) },
		"voucher":       func(x *api.Ticket) { x.Voucher-- },
		"posts":         func(x *api.Ticket) { x.Posts-- },
		"a coupon more": func(x *api.Ticket) { x.Coupons = append(x.Coupons, api.Coupon{}) },
		"a coupon less": func(x *api.Ticket) { x.Coupons = x.Coupons[:3] },
		"a tax more":    func(x *api.Ticket) { x.Taxes = append(x.Taxes, api.Tax{}) },
		"a tax less":    func(x *api.Ticket) { x.Taxes = x.Taxes[:3] },
		"an event more": func(x *api.Ticket) { x.History = append(x.History, api.Event{}) },
		"an event less": func(x *api.Ticket) { x.History = x.History[:7] },
		"no coupons":    func(x *api.Ticket) { x.Coupons = nil },
		"no taxes":      func(x *api.Ticket) { x.Taxes = nil },
		"no events":     func(x *api.Ticket) { x.History = nil },
	}
	for i := range 4 {
		l[name("flight", i)] = func(x *api.Ticket) { x.Coupons[i].Flight++ }
		l[name("day", i)] = func(x *api.Ticket) { x.Coupons[i].Day++ }
		l[name("value", i)] = func(x *api.Ticket) { x.Coupons[i].Value++ }
		l[name("status", i)] = func(x *api.Ticket) { x.Coupons[i].Status++ }
		l[name("holder", i)] = func(x *api.Ticket) { x.Coupons[i].Holder++ }
		l[name("next", i)] = func(x *api.Ticket) { x.Coupons[i].Next++ }
		l[name("code", i)] = func(x *api.Ticket) { x.Taxes[i].Code++ }
		l[name("amount", i)] = func(x *api.Ticket) { x.Taxes[i].Amount++ }
	}
	for i := range 8 {
		l[name("event's day", i)] = func(x *api.Ticket) { x.History[i].Day++ }
		l[name("event's coupon", i)] = func(x *api.Ticket) { x.History[i].Coupon++ }
		l[name("from", i)] = func(x *api.Ticket) { x.History[i].From++ }
		l[name("to", i)] = func(x *api.Ticket) { x.History[i].To++ }
	}
	return l
}

// P13.1: the same ones are, and one that is another in one thing is not, whichever stands first.
func TestSame(t *testing.T) {
	for i, x := range ones() {
		if !ticket.Same(x, copied(x)) {
			t.Errorf("the ticket %d is not the same", i)
		}
	}
	for name, differ := range differences() {
		x, y := rich(), rich()
		differ(&y)
		was := copied(y)
		if ticket.Same(x, y) || ticket.Same(y, x) {
			t.Errorf("%s: both are the same", name)
		}
		wantKept(t, "Same", x, rich())
		wantKept(t, "Same", y, was)
	}
}

// P13.1: those that may not be, too, are the same, or not.
func TestSameOfWrongOnes(t *testing.T) {
	for name, x := range broken() {
		if !ticket.Same(x, copied(x)) {
			t.Errorf("%s: it is not the same", name)
		}
		if ticket.Same(x, rich()) || ticket.Same(rich(), x) {
			t.Errorf("%s: it is the same as one that may be", name)
		}
	}
}

// P13.1: nil and empty lists are one.
func TestSameOfEmptyLists(t *testing.T) {
	x := api.Ticket{Coupons: []api.Coupon{}, Taxes: make([]api.Tax, 0, 3), History: []api.Event{}}
	if !ticket.Same(x, api.Ticket{}) || !ticket.Same(api.Ticket{}, x) || !ticket.Same(x, x) {
		t.Error("empty lists are not as nil ones")
	}
	if y := ticket.Clone(x); !ticket.Same(y, api.Ticket{}) {
		t.Errorf("Clone is %v", y)
	}
}

// P13.1: a clone is the same, of what may not be, too.
func TestClone(t *testing.T) {
	for i, x := range ones() {
		if y := ticket.Clone(x); !alike(y, x) {
			t.Errorf("of the ticket %d Clone is %v", i, y)
		}
	}
	for name, x := range broken() {
		was := copied(x)
		if y := ticket.Clone(x); !alike(y, was) {
			t.Errorf("%s: Clone is another one", name)
		}
		wantKept(t, "Clone", x, was)
	}
}

// P13.1: a clone, and what it is of, go on apart, whatever room their lists have.
func TestClonesShareNothing(t *testing.T) {
	for _, x := range []api.Ticket{rich(), roomy(rich())} {
		y := ticket.Clone(x)
		scribble(&y)
		wantKept(t, "another clone", x, rich())
		y = ticket.Clone(x)
		_ = append(y.Coupons, api.Coupon{Flight: 1})
		_ = append(y.Taxes, api.Tax{Code: 1})
		_ = append(y.History, api.Event{Day: 1})
		wantKept(t, "growing lists", y, rich())
		scribble(&x)
		wantKept(t, "what a clone is of", y, rich())
	}
}

// roomy is the same ticket, whose lists have room, in which something stands.
func roomy(x api.Ticket) api.Ticket {
	x.Coupons = append(copied(x).Coupons, mark().Coupons...)[:len(x.Coupons)]
	x.Taxes = append(copied(x).Taxes, mark().Taxes...)[:len(x.Taxes)]
	x.History = append(copied(x).History, mark().History...)[:len(x.History)]
	return x
}

// mark is what stands in the room.
func mark() api.Ticket {
	return api.Ticket{Coupons: []api.Coupon{{Flight: 111}}, Taxes: []api.Tax{{Code: 22}}, History: []api.Event{{Day: 33}}}
}

// wantMark: what stands in a roomy ticket's room was left.
func wantMark(t *testing.T, x api.Ticket) {
	t.Helper()
	room := api.Ticket{Coupons: x.Coupons[len(x.Coupons):][:1], Taxes: x.Taxes[len(x.Taxes):][:1], History: x.History[len(x.History):][:1]}
	if !alike(room, mark()) {
		t.Errorf("in the room stands %v", room)
	}
}

// Rules for all layers: what is handed in is not changed, what stands in its lists' room neither.
func TestRoomIsLeft(t *testing.T) {
	x := roomy(rich())
	ticket.May(x)
	ticket.Bytes(x)
	ticket.Same(x, x)
	ticket.Clone(x)
	ticket.Value(x)
	ticket.Taxes(x)
	ticket.Live(x)
	ticket.At(x, 41)
	if _, e := ticket.Change(x, 4, 1_000_000, api.Refunded, 0); e != api.OK {
		t.Errorf("Change: %d", e)
	}
	wantKept(t, "each call", x, rich())
	wantMark(t, x)
}
