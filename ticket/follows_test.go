package ticket_test

import (
	"math/rand"
	"slices"
	"testing"

	"coupon/api"
	"coupon/ticket"
)

// P13.4: Of of Bytes is it.
func TestOfOfBytes(t *testing.T) {
	by := rand.New(rand.NewSource(136))
	for range 2000 {
		x := chance(by)
		b, e := ticket.Bytes(x)
		if e != api.OK {
			t.Fatalf("Bytes(%v): %d", x, e)
		}
		y, e := ticket.Of(b)
		if e != api.OK || !ticket.Same(x, y) || !alike(x, y) {
			t.Errorf("Of of Bytes of %v is %v, %d", x, y, e)
		}
	}
}

// P13.4: unlike tickets have unlike bytes.
func TestUnlikeTicketsHaveUnlikeBytes(t *testing.T) {
	by := rand.New(rand.NewSource(137))
	seen := map[string]api.Ticket{}
	keep := func(x api.Ticket) {
		b, e := ticket.Bytes(x)
		if e != api.OK {
			return
		}
		if y, is := seen[string(b)]; is && !alike(x, y) {
			t.Errorf("%v and %v have the same bytes", x, y)
		}
		seen[string(b)] = x
	}
	for _, differ := range differences() {
		x := rich()
		differ(&x)
		keep(x)
	}
	for range 3000 {
		x := chance(by)
		keep(x)
		keep(bent(by, x))
	}
	if len(seen) < 3000 {
		t.Errorf("there are %d tickets", len(seen))
	}
}

// P13.4, P13.2: changes by chance are as the words say them; what they make may be.
func TestWhatChangeMakesMayBe(t *testing.T) {
	by := rand.New(rand.NewSource(138))
	told := map[api.Errno]int{}
	for range 1500 {
		x := chance(by)
		if by.Intn(5) == 0 {
			x = full(55 + by.Intn(6))
		}
		for range 10 {
			day := x.Issued + by.Intn(30) - 2
			if n := len(x.History); n > 0 {
				day = x.History[n-1].Day + by.Intn(4) - 1
			}
			coupon, to := 1+by.Intn(len(x.Coupons)), api.Status(by.Intn(11))
			if next := leadsTo[x.Coupons[coupon-1].Status]; len(next) > 0 && by.Intn(3) > 0 {
				to = next[by.Intn(len(next))]
			}
			with := uint64(0)
			if by.Intn(8) > 0 {
				with = withFor(by, x.Number, to)
			}
			if by.Intn(20) == 0 {
				coupon = by.Intn(7) - 1
			}
			_, want := plainChange(x, coupon, day, to, with)
			y := wantChange(t, x, coupon, day, to, with, want)
			told[want]++
			if want == api.OK {
				wantSome(t, "what Change makes", y)
				x = y
			}
		}
	}
	for _, e := range []api.Errno{api.OK, api.ErrArg, api.ErrState, api.ErrDay, api.ErrFull} {
		if told[e] < 50 {
			t.Errorf("%d was told %d times", e, told[e])
		}
	}
}

// P13.4, P0.3: a coupon that is at a last status can't be changed.
func TestLastOnesStay(t *testing.T) {
	by := rand.New(rand.NewSource(139))
	last := 0
	for range 500 {
		x := chance(by)
		for i, c := range x.Coupons {
			if len(leadsTo[c.Status]) > 0 {
				continue
			}
			last++
			for to := api.Status(0); to <= 10; to++ {
				for _, day := range []int{x.Issued, 1_000_000} {
					wantChange(t, x, i+1, day, to, withFor(by, x.Number, to), api.ErrState)
				}
			}
		}
	}
	if last < 100 {
		t.Errorf("%d coupons are at a last status", last)
	}
}

// P13.3, P13.4: on the last day each coupon is what its status says; with each event one of them changes.
func TestAtFollowsTheHistory(t *testing.T) {
	by := rand.New(rand.NewSource(140))
	for range 500 {
		x := chance(by)
		var are []api.Status
		for _, c := range x.Coupons {
			are = append(are, c.Status)
		}
		if l := ticket.At(x, api.MaxDay); !slices.Equal(l, are) {
			t.Errorf("At(%v, MaxDay) is %v", x, l)
		}
		if l := ticket.At(x, x.Issued-1); slices.ContainsFunc(l, func(s api.Status) bool { return s != api.Open }) || len(l) != len(are) {
			t.Errorf("ahead of all At(%v) is %v", x, l)
		}
	}
}
