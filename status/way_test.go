package status_test

import (
	"slices"
	"testing"

	"coupon/api"
	"coupon/status"
)

// P12.2: walks of none, of one, and some written out.
func TestWalk(t *testing.T) {
	wantWalk(t, nil, 0, api.OK)
	wantWalk(t, []api.Status{}, 0, api.OK)
	for _, s := range nine() {
		wantWalk(t, []api.Status{s}, 0, api.OK)
	}
	for _, s := range []string{"OAF", "OCLF", "OCOCO", "OSOAOSR", "LCLCLF", "AOAOE", "SOV"} {
		wantWalk(t, row(s), 0, api.OK)
	}
}

// P12.2: rows that are no walk, written out.
func TestNoWalks(t *testing.T) {
	for s, want := range map[string]int{
		"OF": 1, "OO": 1, "CC": 1, "FF": 1, "VO": 1, "CF": 1, "SF": 1, "AR": 1, "LO": 1, "FOOO": 1, "OCF": 2, "OCC": 2, "OFF": 1, "OCLO": 3, "OCLFF": 4, "OCLFO": 4, "OAFA": 3, "OSRO": 3, "OVOVO": 2, "OCLCOAOSOL": 9, "OCLCOAOSOLF": 9,
	} {
		wantWalk(t, row(s), want, api.ErrState)
	}
}

// everyRow does with each row of so many of the nine.
func everyRow(many int, do func([]api.Status)) {
	var grow func(l []api.Status)
	grow = func(l []api.Status) {
		if len(l) == many {
			do(l)
			return
		}
		for _, s := range nine() {
			grow(append(l, s))
		}
	}
	grow(nil)
}

// P12.2: all rows of up to four statuses, as the words say it.
func TestWalkOfEveryRow(t *testing.T) {
	for many := range 5 {
		everyRow(many, func(l []api.Status) {
			for i := 1; i < len(l); i++ {
				if !plainLeads(l[i-1], l[i]) {
					wantWalk(t, l, i, api.ErrState)
					return
				}
			}
			wantWalk(t, l, 0, api.OK)
		})
	}
}

// P12.2: long rows, and a fault at each place of one.
func TestLongWalks(t *testing.T) {
	long := slices.Repeat(row("OC"), 50_000)
	wantWalk(t, long, 0, api.OK)
	wantWalk(t, append(long, api.Open, api.Void), 0, api.OK)
	wantWalk(t, append(long, api.Open, api.Void, api.Open), len(long)+2, api.ErrState)
	wantWalk(t, append(long, api.Void), len(long), api.ErrState)
	for i := range 300 {
		faulty := slices.Clone(long[:300])
		faulty[i] = api.Flown
		wantWalk(t, faulty, max(i, 1), api.ErrState)
	}
}

// P12.2, P0.6: a status that may not be is told wherever it stands, ahead of a row that is no walk.
func TestWalkOfWrongOnes(t *testing.T) {
	for _, wrong := range wrongOnes() {
		wantWalk(t, []api.Status{wrong}, 0, api.ErrArg)
		wantWalk(t, []api.Status{wrong, wrong}, 0, api.ErrArg)
		for _, s := range []string{"O", "OC", "OCLF", "OF", "FOF", "OOOO", "OCLFO"} {
			for at := range len(s) + 1 {
				wantWalk(t, slices.Insert(row(s), at, wrong), 0, api.ErrArg)
			}
		}
	}
}

// writtenWays are, by the status that they begin with, all ways to others and itself.
func writtenWays() map[string][]string {
	return map[string][]string{
		"O": {"O", "OC", "OCL", "OAF", "OE", "OR", "OV", "OS", "OA"},
		"C": {"CO", "C", "CL", "CLF", "COE", "COR", "COV", "COS", "COA"},
		"L": {"LCO", "LC", "L", "LF", "LCOE", "LCOR", "LCOV", "LCOS", "LCOA"},
		"F": {"", "", "", "F", "", "", "", "", ""},
		"E": {"", "", "", "", "E", "", "", "", ""},
		"R": {"", "", "", "", "", "R", "", "", ""},
		"V": {"", "", "", "", "", "", "V", "", ""},
		"S": {"SO", "SOC", "SOCL", "SOAF", "SOE", "SR", "SOV", "S", "SOA"},
		"A": {"AO", "AOC", "AOCL", "AF", "AOE", "AOR", "AOV", "AOS", "A"},
	}
}

// P12.2: the ways between all of the nine, written out.
func TestWay(t *testing.T) {
	for letter, ways := range writtenWays() {
		for i, way := range ways {
			want := api.OK
			if way == "" {
				want = api.ErrState
			}
			wantWay(t, row(letter)[0], api.Status(i+1), row(way), want)
		}
	}
}

// P12.2: the ways between all of the nine, as the words say it.
func TestWayIsTheShortest(t *testing.T) {
	for _, from := range nine() {
		for _, to := range nine() {
			way, e := plainWay(from, to), api.OK
			if way == nil {
				e = api.ErrState
			}
			wantWay(t, from, to, way, e)
		}
	}
}

// P12.2, P0.6: a status that may not be is told, whichever it is, ahead of no way.
func TestWayOfWrongOnes(t *testing.T) {
	for _, wrong := range wrongOnes() {
		for _, s := range append(nine(), wrongOnes()...) {
			wantWay(t, wrong, s, nil, api.ErrArg)
			wantWay(t, s, wrong, nil, api.ErrArg)
		}
	}
}

// P12.2: a way is in new memory.
func TestWayIsTheCallers(t *testing.T) {
	for range 2 {
		way, e := status.Way(api.Lifted, api.Refunded)
		if !slices.Equal(way, row("LCOR")) || e != api.OK {
			t.Errorf("it is %v, %d", way, e)
		}
		clear(way)
	}
}
