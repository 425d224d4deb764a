package status_test

import (
	"math"
	"slices"
	"strings"
	"testing"

	"coupon/api"
	"coupon/status"
)

// inOrder are the letters of the nine statuses, from 1 on.
const inOrder = "OCLFERVSA"

// leadsTo is the document's table: by each letter those of the statuses that it leads to.
func leadsTo() map[string]string {
	return map[string]string{"O": "CERVSA", "C": "OL", "L": "CF", "F": "", "E": "", "R": "", "V": "", "S": "OR", "A": "OF"}
}

// row is the row of statuses of letters.
func row(s string) []api.Status {
	var l []api.Status
	for _, c := range []byte(s) {
		l = append(l, api.Status(strings.IndexByte(inOrder, c)+1))
	}
	return l
}

// nine are all statuses.
func nine() []api.Status { return row(inOrder) }

// wrongOnes may not be; as bits' places, or cut short, some of them would be statuses.
func wrongOnes() []api.Status {
	return []api.Status{math.MinInt, math.MinInt + 1, math.MinInt32, -64, -63, -9, -2, -1, 0, 10, 11, 31, 32, 33, 63, 64, 65, 66, 73, 128, 129, 256, 257, 265, 1<<16 + 1, math.MaxInt32, 1 << 32, 1<<32 + 1, 1<<32 + 9, math.MaxInt - 1, math.MaxInt}
}

// plainLetter is the letter of one of the nine.
func plainLetter(s api.Status) string { return inOrder[s-1 : s] }

// plainLeads: does the table say that the one leads to the other one?
func plainLeads(from, to api.Status) bool {
	return strings.Contains(leadsTo()[plainLetter(from)], plainLetter(to))
}

// plainWays are all walks from a status that have none twice; as letters.
func plainWays(walk string) []string {
	ways := []string{walk}
	for _, c := range leadsTo()[walk[len(walk)-1:]] {
		if !strings.ContainsRune(walk, c) {
			ways = append(ways, plainWays(walk+string(c))...)
		}
	}
	return ways
}

// plainWay is, of all ways from the one to the other one, the shortest, and of those the least; nothing, if there is none.
func plainWay(from, to api.Status) []api.Status {
	var least []api.Status
	for _, s := range plainWays(plainLetter(from)) {
		way := row(s)
		if way[len(way)-1] != to {
			continue
		}
		if least == nil || len(way) < len(least) || len(way) == len(least) && slices.Compare(way, least) < 0 {
			least = way
		}
	}
	return least
}

// wantWalk: of that row so many, and that error, are told; the row stays as it was.
func wantWalk(t *testing.T, l []api.Status, want int, e api.Errno) {
	t.Helper()
	given := slices.Clone(l)
	if n, got := status.Walk(given...); n != want || got != e {
		t.Errorf("Walk(%d statuses, %v) is %d, %d, not %d, %d", len(l), l[:min(len(l), 8)], n, got, want, e)
	}
	if !slices.Equal(given, l) {
		t.Errorf("Walk leaves %v, not %v", given[:min(len(l), 8)], l[:min(len(l), 8)])
	}
}

// wantWay: from the one to the other one the way is this, or that error is told.
func wantWay(t *testing.T, from, to api.Status, want []api.Status, e api.Errno) {
	t.Helper()
	if l, got := status.Way(from, to); !slices.Equal(l, want) || got != e {
		t.Errorf("Way(%d, %d) is %v, %d, not %v, %d", from, to, l, got, want, e)
	}
}
