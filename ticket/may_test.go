package ticket_test

import (
	"math"
	"math/rand"
	"slices"
	"strconv"
	"strings"
	"testing"

	"coupon/api"
	"coupon/ticket"
)

// wrongNumbers are no ticket numbers.
func wrongNumbers() []uint64 {
	return []uint64{0, 1, 126, 1_230_000_000_013, 1_230_000_000_015, num(99, 5), 10 * num(123, 1), math.MaxInt64, math.MaxUint64, 1<<63 + num(123, 1)}
}

// wrongDays are no days; wrongCents are no amounts of 0 or more.
func wrongDays() []int {
	return []int{math.MinInt, -1_000_000, -1, 1_000_001, math.MaxUint32, 1 << 32, 1<<32 + 50, math.MaxInt}
}
func wrongCents() []int64 {
	return []int64{math.MinInt64, -1_000_000_000_000, -1, 1_000_000_000_001, math.MaxInt64}
}

// faults break a rich ticket, each by one thing.
func faults() map[string]func(*api.Ticket) {
	l := map[string]func(*api.Ticket){}
	headFaults(l)
	chainFaults(l)
	couponFaults(l)
	withFaults(l)
	taxFaults(l)
	historyFaults(l)
	return l
}

// name tells a fault by what it is of, and a number.
func name[T ~int | ~int64 | ~uint64](what string, n T) string {
	return what + " " + strconv.FormatInt(int64(n), 10)
}

func headFaults(l map[string]func(*api.Ticket)) {
	for _, n := range wrongNumbers() {
		l[name("number", n)] = func(x *api.Ticket) { x.Number = n }
		l[name("number and origin, of no exchange", n)] = func(x *api.Ticket) { x.Number, x.Prev, x.Origin = n, 0, n }
	}
	for _, s := range []string{"", "A", "ABCDE", "ABCDEFG", "abcdef", "ABCD0F", "1BCDEF", "ABCDE ", "ABCDE\x00", "ABCD\u00c4", "ABC-EF", strings.Repeat("A", 65536+6)} {
		l["locator "+s[:min(len(s), 9)]] = func(x *api.Ticket) { x.Locator = s }
	}
	for _, day := range wrongDays() {
		l[name("issued", day)] = func(x *api.Ticket) { x.Issued = day }
	}
	l["issued ahead of time, and no event"] = func(x *api.Ticket) { *x = one(); x.Issued = -1 }
	l["issued too late, and no event"] = func(x *api.Ticket) { *x = one(); x.Issued = 1_000_001 }
	for _, n := range []int64{math.MinInt64, -1 << 50, -1, 1<<50 + 1, 1 << 51, math.MaxInt64} {
		l[name("voucher", n)] = func(x *api.Ticket) { x.Voucher = n }
	}
	for _, n := range []int{math.MinInt, -1, 201, 255, 256, 300, math.MaxInt} {
		l[name("posts", n)] = func(x *api.Ticket) { x.Posts = n }
	}
}

func chainFaults(l map[string]func(*api.Ticket)) {
	for _, n := range wrongNumbers() {
		l[name("first", n)] = func(x *api.Ticket) { x.First = n }
		l[name("origin", n)] = func(x *api.Ticket) { x.Origin = n }
		if n != 0 {
			l[name("prev", n)] = func(x *api.Ticket) { x.Prev = n }
			l[name("prev, and the own origin", n)] = func(x *api.Ticket) { x.Prev, x.Origin = n, x.Number }
		}
		l[name("origin, of no exchange", n)] = func(x *api.Ticket) { *x = one(); x.Origin = n }
	}
	l["no prev, and another origin"] = func(x *api.Ticket) { x.Prev = 0 }
	l["another origin, of no exchange"] = func(x *api.Ticket) { *x = one(); x.Origin = num(123, 2) }
	l["the own prev"] = func(x *api.Ticket) { x.Prev = x.Number }
	l["a prev, and the own origin"] = func(x *api.Ticket) { x.Origin = x.Number }
	l["the own prev and origin"] = func(x *api.Ticket) { x.Prev, x.Origin = x.Number, x.Number }
}

func couponFaults(l map[string]func(*api.Ticket)) {
	l["no coupons"] = func(x *api.Ticket) { x.Coupons = nil }
	l["no coupons, and no events"] = func(x *api.Ticket) { x.Coupons, x.History = nil, nil }
	l["five coupons"] = func(x *api.Ticket) { x.Coupons = append(x.Coupons, one().Coupons...) }
	l["256 coupons, and one"] = func(x *api.Ticket) { *x = one(); x.Coupons = slices.Repeat(x.Coupons, 257) }
	l["many coupons"] = func(x *api.Ticket) { *x = one(); x.Coupons = slices.Repeat(x.Coupons, 65537) }
	for i := range 4 {
		of := " of " + strconv.Itoa(i)
		for _, n := range []int{math.MinInt, -1, 0, 10_000, 65535, 65536, 65537, math.MaxInt} {
			l[name("flight"+of, n)] = func(x *api.Ticket) { x.Coupons[i].Flight = n }
		}
		for _, day := range wrongDays() {
			l[name("day"+of, day)] = func(x *api.Ticket) { x.Coupons[i].Day = day }
		}
		for _, n := range wrongCents() {
			l[name("value"+of, n)] = func(x *api.Ticket) { x.Coupons[i].Value = n }
		}
		for _, s := range []api.Status{math.MinInt, -1, 0, 10, 64 + 1, 255, 256 + 1, math.MaxInt} {
			l[name("status"+of, s)] = func(x *api.Ticket) { x.Coupons[i].Status = s }
		}
		for s := api.Open; s <= api.Control; s++ {
			if s != rich().Coupons[i].Status {
				l[name("untold status"+of, s)] = func(x *api.Ticket) {
					c := &x.Coupons[i]
					c.Status, c.Holder, c.Next = s, 0, 0
					if s == api.Control {
						c.Holder = 900
					}
					if s == api.Exchanged {
						c.Next = num(123, 80)
					}
				}
			}
		}
	}
}

func withFaults(l map[string]func(*api.Ticket)) {
	for _, n := range []int{math.MinInt, -126, -1, 0, 1, 99, 100, 124, 1001, 65535, 65536 + 126, 1<<32 + 126, math.MaxInt} {
		l[name("holder", n)] = func(x *api.Ticket) { x.Coupons[0].Holder = n }
	}
	for _, n := range append(wrongNumbers(), rich().Number) {
		l[name("next", n)] = func(x *api.Ticket) { x.Coupons[1].Next = n }
	}
	for i := range 4 {
		of := " of " + strconv.Itoa(i)
		for _, n := range []int{-1, 1, 126, 65536} {
			if i != 0 {
				l[name("a holder"+of, n)] = func(x *api.Ticket) { x.Coupons[i].Holder = n }
			}
		}
		for _, n := range []uint64{1, num(123, 80), rich().Number, math.MaxUint64} {
			if i != 1 {
				l[name("a next"+of, n)] = func(x *api.Ticket) { x.Coupons[i].Next = n }
			}
		}
	}
	l["a holder that is the next"] = func(x *api.Ticket) { c := &x.Coupons[0]; c.Holder, c.Next = 0, 126 }
	l["a next that is the holder"] = func(x *api.Ticket) { c := &x.Coupons[1]; c.Holder, c.Next = int(c.Next), 0 }
}

func taxFaults(l map[string]func(*api.Ticket)) {
	l["five taxes"] = func(x *api.Ticket) {
		x.Taxes = []api.Tax{{Code: 1}, {Code: 2}, {Code: 3}, {Code: 4}, {Code: 5}}
	}
	l["256 taxes"] = func(x *api.Ticket) { x.Taxes = make([]api.Tax, 256) }
	l["a tax twice"] = func(x *api.Ticket) { x.Taxes[1].Code = 1 }
	l["a tax twice, at the end"] = func(x *api.Ticket) { x.Taxes[3].Code = 50 }
	l["a tax that falls"] = func(x *api.Ticket) { x.Taxes[2].Code = 1 }
	l["taxes that fall"] = func(x *api.Ticket) { slices.Reverse(x.Taxes) }
	for i := range 4 {
		of := " of " + strconv.Itoa(i)
		for _, n := range []int{math.MinInt, -1, 0, 100, 255, 256, 257, math.MaxInt} {
			l[name("code"+of, n)] = func(x *api.Ticket) { x.Taxes[i].Code = n }
			l[name("code alone"+of, n)] = func(x *api.Ticket) { x.Taxes = []api.Tax{{Code: n}} }
		}
		for _, n := range wrongCents() {
			l[name("amount"+of, n)] = func(x *api.Ticket) { x.Taxes[i].Amount = n }
		}
	}
}

func historyFaults(l map[string]func(*api.Ticket)) {
	for i := range rich().History {
		of := " of " + strconv.Itoa(i)
		l["without the event"+of] = func(x *api.Ticket) { x.History = slices.Delete(x.History, i, i+1) }
		l["the event twice"+of] = func(x *api.Ticket) { x.History = slices.Insert(x.History, i, x.History[i]) }
		for _, day := range append(wrongDays(), 39) {
			l[name("event's day"+of, day)] = func(x *api.Ticket) { x.History[i].Day = day }
		}
		for _, n := range []int{math.MinInt, -1, 0, 5, 255, 256, 257, math.MaxInt} {
			l[name("event's coupon"+of, n)] = func(x *api.Ticket) { x.History[i].Coupon = n }
		}
		for _, n := range []int{1, 2, 3, 4} {
			if n != rich().History[i].Coupon {
				l[name("event's other coupon"+of, n)] = func(x *api.Ticket) { x.History[i].Coupon = n }
			}
		}
		for _, s := range []api.Status{math.MinInt, -1, 0, 1, 2, 3, 4, 5, 6, 7, 8, 9, 10, 65, 255, 257, math.MaxInt} {
			if s != rich().History[i].From {
				l[name("from"+of, s)] = func(x *api.Ticket) { x.History[i].From = s }
			}
			if s != rich().History[i].To {
				l[name("to"+of, s)] = func(x *api.Ticket) { x.History[i].To = s }
			}
		}
	}
	l["no events"] = func(x *api.Ticket) { x.History = nil }
	l["days that fall"] = func(x *api.Ticket) { x.History[5].Day = 49 }
	l["days that fall, between"] = func(x *api.Ticket) { x.History[1].Day = 42 }
	l["many events"] = func(x *api.Ticket) { *x = full(100_000) }
	l["256 events"] = func(x *api.Ticket) { *x = full(256) }
	l["61 events, on one day"] = func(x *api.Ticket) {
		*x = full(61)
		for i := range x.History {
			x.History[i].Day = 5
		}
	}
	l["an event behind a last one"] = func(x *api.Ticket) {
		x.Coupons[2].Status = api.Open
		x.History = append(x.History, api.Event{Day: 1_000_000, Coupon: 3, From: api.Flown, To: api.Open})
	}
}

// P13.1: those that may be.
func TestMay(t *testing.T) {
	for i, x := range ones() {
		wantSome(t, name("the ticket", i), x)
	}
}

// P13.1, P0.6: each fault alone, at and beyond the edges; what may not be is told by each call.
func TestMayNot(t *testing.T) {
	for name, x := range broken() {
		if plainMay(x) {
			t.Errorf("%s: the words say that it may be", name)
		}
		wantNone(t, name, x)
	}
}

// edges are tickets, each of which has one thing at its bound.
func edges() map[string]func(*api.Ticket) {
	return map[string]func(*api.Ticket){
		"issued 0":                    func(x *api.Ticket) { x.Issued = 0 },
		"issued on MaxDay":            func(x *api.Ticket) { x.Issued = 1_000_000 },
		"the least number":            func(x *api.Ticket) { x.Number, x.Origin = num(100, 0), num(100, 0) },
		"the greatest number":         func(x *api.Ticket) { x.Number, x.Origin = num(999, 999_999_999), num(999, 999_999_999) },
		"another first":               func(x *api.Ticket) { x.First = num(999, 3) },
		"prev and origin are one":     func(x *api.Ticket) { x.Prev, x.Origin = num(123, 2), num(123, 2) },
		"prev and origin of others":   func(x *api.Ticket) { x.Prev, x.Origin, x.First = num(124, 1), num(125, 1), num(126, 1) },
		"an exchange's own first":     func(x *api.Ticket) { x.Prev, x.Origin = num(123, 2), num(123, 3) },
		"a cent owed":                 func(x *api.Ticket) { x.Voucher = 1 },
		"the most owed":               func(x *api.Ticket) { x.Voucher = 1 << 50 },
		"200 posts":                   func(x *api.Ticket) { x.Posts = 200 },
		"flight 1":                    func(x *api.Ticket) { x.Coupons[0].Flight = 1 },
		"flight 9999":                 func(x *api.Ticket) { x.Coupons[0].Flight = 9999 },
		"a coupon's day 0":            func(x *api.Ticket) { x.Coupons[0].Day = 0 },
		"a coupon's day MaxDay":       func(x *api.Ticket) { x.Coupons[0].Day = 1_000_000 },
		"days that fall":              func(x *api.Ticket) { x.Coupons = append(x.Coupons, x.Coupons[0]); x.Coupons[0].Day = 10 },
		"value 0":                     func(x *api.Ticket) { x.Coupons[0].Value = 0 },
		"value MaxMoney":              func(x *api.Ticket) { x.Coupons[0].Value = 1_000_000_000_000 },
		"four coupons of one flight":  func(x *api.Ticket) { x.Coupons = slices.Repeat(x.Coupons, 4) },
		"a tax of code 1, of nothing": func(x *api.Ticket) { x.Taxes = []api.Tax{{Code: 1}} },
		"a tax of code 99":            func(x *api.Ticket) { x.Taxes = []api.Tax{{Code: 99, Amount: 1_000_000_000_000}} },
		"codes 98 and 99":             func(x *api.Ticket) { x.Taxes = []api.Tax{{Code: 98}, {Code: 99}} },
		"empty lists":                 func(x *api.Ticket) { x.Taxes, x.History = []api.Tax{}, []api.Event{} },
		"the least holder":            func(x *api.Ticket) { lent(x, 101) },
		"the greatest holder":         func(x *api.Ticket) { lent(x, 1000) },
		"a holder beside the own one": func(x *api.Ticket) { lent(x, 123) },
		"another beside the own one":  func(x *api.Ticket) { lent(x, 125) },
		"a next of another carrier":   func(x *api.Ticket) { exchanged(x, num(999, 999_999_999)) },
		"a next that is the first":    func(x *api.Ticket) { x.First = num(123, 8); exchanged(x, num(123, 8)) },
		"a next that is the prev": func(x *api.Ticket) {
			x.Prev, x.Origin = num(123, 8), num(123, 9)
			exchanged(x, num(123, 8))
		},
		"an event on MaxDay":   func(x *api.Ticket) { lent(x, 200); x.History[0].Day = 1_000_000 },
		"an event when issued": func(x *api.Ticket) { lent(x, 200); x.History[0].Day = 5 },
	}
}

// lent is a ticket whose coupon is Control; exchanged one whose coupon is Exchanged.
func lent(x *api.Ticket, holder int) {
	x.Coupons[0].Status, x.Coupons[0].Holder = api.Control, holder
	x.History = []api.Event{{Day: 7, Coupon: 1, From: api.Open, To: api.Control}}
}
func exchanged(x *api.Ticket, next uint64) {
	x.Coupons[0].Status, x.Coupons[0].Next = api.Exchanged, next
	x.History = []api.Event{{Day: 7, Coupon: 1, From: api.Open, To: api.Exchanged}}
}

// P13.1: what stands at the bounds may be.
func TestMayAtTheEdges(t *testing.T) {
	for name, put := range edges() {
		x := one()
		put(&x)
		wantSome(t, name, x)
	}
}

// bent is a ticket of which one thing is another one, by chance.
func bent(by *rand.Rand, x api.Ticket) api.Ticket {
	x = copied(x)
	numbers := append(wrongNumbers(), x.Number, x.Prev, x.Origin, num(123, by.Intn(3)), 126)
	ints := []int{-1, 0, 1, 2, 3, 4, 5, 9, 39, 40, 41, 60, 61, 99, 100, 101, 124, 200, 201, 1000, 1001, 9999, 10_000, 1_000_000, 1_000_001}
	someNumber, some := numbers[by.Intn(len(numbers))], ints[by.Intn(len(ints))]
	cents := append(wrongCents(), 0, 1, 1_000_000_000_000)
	i := by.Intn(len(x.Coupons))
	c := &x.Coupons[i]
	switch by.Intn(16) {
	case 0:
		x.Number = someNumber
	case 1:
		x.Prev = someNumber
	case 2:
		x.Origin = someNumber
	case 3:
		x.First = someNumber
	case 4:
		x.Issued = some
	case 5:
		x.Posts = some
	case 6:
		x.Voucher = int64(some) << by.Intn(51)
	case 7:
		c.Flight = some
	case 8:
		c.Day = some
	case 9:
		c.Value = cents[by.Intn(len(cents))]
	case 10:
		c.Status = api.Status(by.Intn(11))
	case 11:
		c.Holder = some
	case 12:
		c.Next = someNumber
	case 13:
		if n := len(x.Taxes); n > 0 {
			x.Taxes[by.Intn(n)] = api.Tax{Code: some, Amount: cents[by.Intn(len(cents))]}
		}
	case 14:
		x.Coupons = slices.Delete(x.Coupons, i, i+1)
	case 15:
		bendHistory(by, &x, some)
	}
	return x
}

func bendHistory(by *rand.Rand, x *api.Ticket, some int) {
	if len(x.History) == 0 {
		return
	}
	i := by.Intn(len(x.History))
	e := &x.History[i]
	switch by.Intn(6) {
	case 0:
		e.Day = some
	case 1:
		e.Coupon = by.Intn(6)
	case 2:
		e.From = api.Status(by.Intn(11))
	case 3:
		e.To = api.Status(by.Intn(11))
	case 4:
		x.History = slices.Delete(x.History, i, i+1)
	case 5:
		j := by.Intn(len(x.History))
		x.History[i], x.History[j] = x.History[j], x.History[i]
	}
}

// P13.1, P0.6: tickets that are bent by chance may be where the words say so.
func TestMayByChance(t *testing.T) {
	by := rand.New(rand.NewSource(131))
	may, mayNot := 0, 0
	for range 6000 {
		x := bent(by, chance(by))
		if by.Intn(3) == 0 && len(x.Coupons) > 0 {
			x = bent(by, x)
		}
		if plainMay(x) {
			may++
			wantSome(t, "bent by chance", x)
		} else {
			mayNot++
			wantNone(t, "bent by chance", x)
		}
	}
	if may < 500 || mayNot < 500 {
		t.Errorf("%d may be, %d may not", may, mayNot)
	}
}

// P0.6: no call panics on what is far from a ticket.
func TestNoPanic(t *testing.T) {
	for _, n := range []int{math.MinInt, -1, 0, 1, 256, math.MaxInt} {
		x := api.Ticket{
			Number: uint64(n), Locator: "x", Issued: n, Prev: uint64(n), Origin: uint64(n), First: uint64(n), Voucher: int64(n), Posts: n,
			Coupons: []api.Coupon{{Flight: n, Day: n, Value: int64(n), Status: api.Status(n), Holder: n, Next: uint64(n)}},
			Taxes:   []api.Tax{{Code: n, Amount: int64(n)}},
			History: []api.Event{{Day: n, Coupon: n, From: api.Status(n), To: api.Status(n)}},
		}
		wantNone(t, name("all is", n), x)
		if !ticket.Same(x, ticket.Clone(x)) {
			t.Errorf("all is %d: its clone is another one", n)
		}
		for _, y := range []api.Ticket{x, one(), rich()} {
			for _, coupon := range []int{math.MinInt, -1, 0, 1, 4, 5, math.MaxInt} {
				if z, e := ticket.Change(y, coupon, n, api.Status(n), uint64(n)); e == api.OK || !alike(z, api.Ticket{}) {
					t.Errorf("Change(%v, %d, %d ..) is %v, %d", y, coupon, n, z, e)
				}
			}
			ticket.Value(y, api.Status(n))
			ticket.At(y, n)
		}
	}
}
