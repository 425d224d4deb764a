package status_test

import (
	"slices"
	"testing"

	"coupon/api"
	"coupon/status"
)

// P12.3: only the end of a walk may be a last one.
func TestOnlyTheEndIsALastOne(t *testing.T) {
	walks := 0
	for many := 1; many <= 5; many++ {
		everyRow(many, func(l []api.Status) {
			if _, e := status.Walk(l...); e != api.OK {
				return
			}
			walks++
			if i := slices.IndexFunc(l, status.Last); i >= 0 && i < many-1 {
				t.Errorf("the walk %v goes on behind a last one", l)
			}
		})
	}
	if walks == 0 {
		t.Error("there is no walk")
	}
}

// P12.3: each status has a way from Open.
func TestAWayFromOpen(t *testing.T) {
	for _, to := range nine() {
		if way, e := status.Way(api.Open, to); e != api.OK || len(way) == 0 {
			t.Errorf("to %d: %v, %d", to, way, e)
		}
	}
}

// P12.3: none has a way from a last one, but to itself.
func TestNoWayFromALastOne(t *testing.T) {
	for _, from := range row("FERV") {
		for _, to := range nine() {
			if to == from {
				wantWay(t, from, to, []api.Status{to}, api.OK)
			} else {
				wantWay(t, from, to, nil, api.ErrState)
			}
		}
	}
}

// P12.3: a way is a walk from the one to the other one, and has no status twice.
func TestAWayIsAWalk(t *testing.T) {
	for _, from := range nine() {
		for _, to := range nine() {
			way, e := status.Way(from, to)
			if e != api.OK {
				continue
			}
			if way[0] != from || way[len(way)-1] != to {
				t.Errorf("from %d to %d the way is %v", from, to, way)
			}
			wantWalk(t, way, 0, api.OK)
			slices.Sort(way)
			if n := len(way); len(slices.Compact(way)) != n {
				t.Errorf("from %d to %d a status is there twice", from, to)
			}
		}
	}
}

// P12.3: one of the nine is a last one, or is live, and it is live where something is next.
func TestLastOrLive(t *testing.T) {
	for _, s := range nine() {
		next := status.Next(s)
		if status.Last(s) != (len(next) == 0) || status.Live(s) != (len(next) > 0) {
			t.Errorf("of %d next are %v", s, next)
		}
		for _, to := range nine() {
			if status.Leads(s, to) != slices.Contains(next, to) {
				t.Errorf("Leads(%d, %d) is %v, next are %v", s, to, status.Leads(s, to), next)
			}
		}
	}
}
