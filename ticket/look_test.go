package ticket_test

import (
	"math"
	"math/rand"
	"slices"
	"testing"

	"coupon/api"
	"coupon/ticket"
)

// P13.3: Value, written out.
func TestValue(t *testing.T) {
	x := rich()
	all := int64(10_000 + 1_234_567 + 1_000_000_000_000)
	for _, row := range []struct {
		l    []api.Status
		want int64
	}{
		{nil, all}, {[]api.Status{}, all}, {[]api.Status{api.Control}, 10_000}, {[]api.Status{api.Exchanged}, 0}, {[]api.Status{api.Flown}, 1_234_567}, {[]api.Status{api.Suspended}, 1_000_000_000_000},
		{[]api.Status{api.Open}, 0}, {[]api.Status{api.Flown, api.Flown, api.Flown}, 1_234_567}, {[]api.Status{api.Flown, api.Control}, 1_244_567}, {[]api.Status{api.Void, api.Suspended, api.Open}, 1_000_000_000_000},
		{[]api.Status{api.Control, api.Exchanged, api.Flown, api.Suspended}, all}, {[]api.Status{1, 2, 3, 4, 5, 6, 7, 8, 9}, all}, {[]api.Status{1, 2, 3, 6, 7}, 0},
		{wrongStatuses(), 0}, {append(wrongStatuses(), api.Control), 10_000},
	} {
		given := slices.Clone(row.l)
		if v := ticket.Value(x, given...); v != row.want {
			t.Errorf("Value of %v is %d, not %d", row.l, v, row.want)
		}
		if !slices.Equal(given, row.l) {
			t.Errorf("Value leaves %v, not %v", given, row.l)
		}
	}
	wantKept(t, "Value", x, rich())
}

// P13.3: coupons of one status are worth what all of them are worth; together it may be more than an amount.
func TestValueOfMany(t *testing.T) {
	x := one()
	x.Coupons = slices.Repeat(x.Coupons, 4)
	if v := ticket.Value(x, api.Open); v != 4000 {
		t.Errorf("four coupons of 1000: %d", v)
	}
	for i := range x.Coupons {
		x.Coupons[i].Value = api.MaxMoney
	}
	for _, l := range [][]api.Status{nil, {api.Open}} {
		if v := ticket.Value(x, l...); v != 4*api.MaxMoney {
			t.Errorf("four coupons of MaxMoney: %d", v)
		}
	}
	x.Taxes = []api.Tax{{Code: 1, Amount: api.MaxMoney}, {Code: 2, Amount: api.MaxMoney}, {Code: 3, Amount: api.MaxMoney}, {Code: 4, Amount: api.MaxMoney}}
	if n := ticket.Taxes(x); n != 4*api.MaxMoney {
		t.Errorf("four taxes of MaxMoney: %d", n)
	}
}

// P13.3: Taxes and Live, written out.
func TestTaxesAndLive(t *testing.T) {
	for _, row := range []struct {
		x           api.Ticket
		taxes, live int
	}{
		{one(), 0, 1}, {full(1), 0, 1}, {full(60), 0, 1}, {rich(), 1_000_000_007_005, 2},
	} {
		was := copied(row.x)
		if n := ticket.Taxes(row.x); n != int64(row.taxes) {
			t.Errorf("Taxes of %v is %d", row.x, n)
		}
		if n := ticket.Live(row.x); n != row.live {
			t.Errorf("Live of %v is %d", row.x, n)
		}
		wantKept(t, "Taxes, Live", row.x, was)
	}
}

// P13.3: a coupon of each status is live, or not, and is worth something to its own status alone.
func TestLiveByStatus(t *testing.T) {
	by := rand.New(rand.NewSource(134))
	for to, way := range map[api.Status][]api.Status{
		api.Open: nil, api.Checked: {2}, api.Lifted: {2, 3}, api.Flown: {2, 3, 4}, api.Exchanged: {5}, api.Refunded: {6}, api.Void: {7}, api.Suspended: {8}, api.Control: {9},
	} {
		x := one()
		for _, s := range way {
			x, _ = plainChange(x, 1, 9, s, withFor(by, x.Number, s))
		}
		want := 1
		if len(leadsTo[to]) == 0 {
			want = 0
		}
		if n := ticket.Live(x); n != want {
			t.Errorf("of status %d %d are live", to, n)
		}
		for s := range leadsTo {
			if v := ticket.Value(x, s); (v == 1000) != (s == to) || (v == 0) != (s != to) {
				t.Errorf("a coupon of status %d is worth %d to %d", to, v, s)
			}
		}
	}
}

// P13.3: At, written out.
func TestAt(t *testing.T) {
	const o, c, f, e, s, a = api.Open, api.Checked, api.Flown, api.Exchanged, api.Suspended, api.Control
	x := rich()
	for _, row := range []struct {
		day  int
		want []api.Status
	}{
		{math.MinInt, []api.Status{o, o, o, o}}, {-1, []api.Status{o, o, o, o}}, {0, []api.Status{o, o, o, o}}, {39, []api.Status{o, o, o, o}},
		{40, []api.Status{o, o, c, o}}, {41, []api.Status{o, o, api.Lifted, o}}, {49, []api.Status{o, o, api.Lifted, o}},
		{50, []api.Status{o, o, f, s}}, {59, []api.Status{o, o, f, s}}, {60, []api.Status{o, e, f, s}}, {999_999, []api.Status{o, e, f, s}},
		{1_000_000, []api.Status{a, e, f, s}}, {1_000_001, []api.Status{a, e, f, s}}, {math.MaxInt, []api.Status{a, e, f, s}},
	} {
		if l := ticket.At(x, row.day); !slices.Equal(l, row.want) {
			t.Errorf("At(%d) is %v, not %v", row.day, l, row.want)
		}
	}
	wantKept(t, "At", x, rich())
	for _, day := range []int{math.MinInt, 0, 5, math.MaxInt} {
		if l := ticket.At(one(), day); !slices.Equal(l, []api.Status{o}) {
			t.Errorf("of no events At(%d) is %v", day, l)
		}
	}
}

// P13.3: what At answers is the caller's.
func TestAtIsTheCallers(t *testing.T) {
	x := rich()
	l := ticket.At(x, 60)
	clear(l[:cap(l)])
	wantKept(t, "At", x, rich())
	if l := ticket.At(x, 60); !slices.Equal(l, []api.Status{api.Open, api.Exchanged, api.Flown, api.Suspended}) {
		t.Errorf("then At is %v", l)
	}
}

// P13.3: looks at tickets by chance, as the words say them.
func TestLooksByChance(t *testing.T) {
	by := rand.New(rand.NewSource(135))
	for range 1000 {
		x := chance(by)
		value, taxes, live := map[api.Status]int64{}, int64(0), 0
		for _, c := range x.Coupons {
			value[c.Status] += c.Value
			if len(leadsTo[c.Status]) > 0 {
				live++
			}
		}
		for _, tax := range x.Taxes {
			taxes += tax.Amount
		}
		all := int64(0)
		for s := range leadsTo {
			all += value[s]
			if v := ticket.Value(x, s); v != value[s] {
				t.Errorf("Value(%v, %d) is %d, not %d", x, s, v, value[s])
			}
		}
		if v, n, l := ticket.Value(x), ticket.Taxes(x), ticket.Live(x); v != all || n != taxes || l != live {
			t.Errorf("of %v Value is %d, Taxes %d, Live %d, not %d, %d, %d", x, v, n, l, all, taxes, live)
		}
		day := x.Issued + by.Intn(40) - 5
		want := slices.Repeat([]api.Status{api.Open}, len(x.Coupons))
		for _, e := range x.History {
			if e.Day <= day {
				want[e.Coupon-1] = e.To
			}
		}
		if l := ticket.At(x, day); !slices.Equal(l, want) {
			t.Errorf("At(%v, %d) is %v, not %v", x, day, l, want)
		}
	}
}
