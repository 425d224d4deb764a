package status_test

import (
	"slices"
	"strings"
	"testing"

	"coupon/api"
	"coupon/status"
)

// P12.1: the nine, and no others, may be.
func TestMay(t *testing.T) {
	for s := api.Status(1); s <= 9; s++ {
		if !status.May(s) {
			t.Errorf("%d may not be", s)
		}
	}
	for _, s := range wrongOnes() {
		if status.May(s) {
			t.Errorf("%d may be", s)
		}
	}
}

// P12.1: the last ones, and the live ones, written out.
func TestLastAndLive(t *testing.T) {
	last := []api.Status{api.Flown, api.Exchanged, api.Refunded, api.Void}
	live := []api.Status{api.Open, api.Checked, api.Lifted, api.Suspended, api.Control}
	for _, s := range append(nine(), wrongOnes()...) {
		if got := status.Last(s); got != slices.Contains(last, s) {
			t.Errorf("Last(%d) is %v", s, got)
		}
		if got := status.Live(s); got != slices.Contains(live, s) {
			t.Errorf("Live(%d) is %v", s, got)
		}
	}
}

// P12.1: each of the nine leads to those of the table alone.
func TestLeads(t *testing.T) {
	for _, from := range nine() {
		for _, to := range nine() {
			if got := status.Leads(from, to); got != plainLeads(from, to) {
				t.Errorf("Leads(%d, %d) is %v", from, to, got)
			}
		}
	}
}

// P12.1, P0.6: what may not be leads to nothing, and nothing leads to it.
func TestWrongOnesLeadNowhere(t *testing.T) {
	for _, wrong := range wrongOnes() {
		for _, s := range append(nine(), wrongOnes()...) {
			if status.Leads(wrong, s) {
				t.Errorf("%d leads to %d", wrong, s)
			}
			if status.Leads(s, wrong) {
				t.Errorf("%d leads to %d", s, wrong)
			}
		}
	}
}

// P12.1: Next, written out.
func TestNext(t *testing.T) {
	for letter, letters := range leadsTo() {
		from := row(letter)[0]
		want := row(letters)
		slices.Sort(want)
		if got := status.Next(from); !slices.Equal(got, want) {
			t.Errorf("Next(%d) is %v, not %v", from, got, want)
		}
	}
	for _, s := range wrongOnes() {
		if got := status.Next(s); len(got) != 0 {
			t.Errorf("Next(%d) is %v", s, got)
		}
	}
}

// P12.1: what Next answers is in new memory.
func TestNextIsTheCallers(t *testing.T) {
	l := status.Next(api.Open)
	clear(l)
	if got := status.Next(api.Open); !slices.Equal(got, row("CERVSA")) {
		t.Errorf("then Next is %v", got)
	}
}

// P12.1: letters, and the statuses that have them, written out.
func TestLetterAndOf(t *testing.T) {
	for letter, s := range map[string]api.Status{
		"O": api.Open, "C": api.Checked, "L": api.Lifted, "F": api.Flown, "E": api.Exchanged, "R": api.Refunded, "V": api.Void, "S": api.Suspended, "A": api.Control,
	} {
		if got := status.Letter(s); got != letter {
			t.Errorf("Letter(%d) is %q", s, got)
		}
		if got, e := status.Of(letter); got != s || e != api.OK {
			t.Errorf("Of(%q) is %d, %d", letter, got, e)
		}
	}
	for _, s := range wrongOnes() {
		if got := status.Letter(s); got != "" {
			t.Errorf("Letter(%d) is %q", s, got)
		}
	}
}

// wantNoLetter: a text is no letter of the table.
func wantNoLetter(t *testing.T, s string) {
	t.Helper()
	if got, e := status.Of(s); got != 0 || e != api.ErrArg {
		t.Errorf("Of(%.20q) is %d, %d", s, got, e)
	}
}

// P12.1: of all texts of one byte Of takes the nine letters alone.
func TestOfOneByte(t *testing.T) {
	for c := range 256 {
		if s := string([]byte{byte(c)}); !strings.Contains(inOrder, s) {
			wantNoLetter(t, s)
		}
	}
}

// P12.1: Of of texts that are not of one byte, of more letters of the table too.
func TestOfNoLetters(t *testing.T) {
	for from := range len(inOrder) {
		for to := range len(inOrder) + 1 {
			if from < to-1 {
				wantNoLetter(t, inOrder[from:to])
			}
		}
		letter := inOrder[from : from+1]
		for _, s := range []string{letter + letter, letter + " ", " " + letter, letter + "\x00", "\x00" + letter, letter + "\n", letter + "\u0301", strings.ToLower(letter) + letter, strings.Repeat(letter, 1000)} {
			wantNoLetter(t, s)
		}
	}
	for _, s := range []string{"", "\u041e", "\u0391", "\u0410", "\uff2f", "\u0415", "\xc3", "\xc3\x8f", "Open", "Control", "10", strings.Repeat("x", 100_000)} {
		wantNoLetter(t, s)
	}
}
