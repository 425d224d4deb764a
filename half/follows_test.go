package half_test

import (
	"math/rand"
	"slices"
	"strconv"
	"testing"

	"coupon/api"
	"coupon/half"
)

// P2.3: Join of Split is the row.
func TestJoinOfSplit(t *testing.T) {
	c := rand.New(rand.NewSource(1))
	for n := 0; n <= api.MaxRow; n += 1 + n/100 {
		tag := tags()[c.Intn(len(tags()))]
		b := make([]byte, n)
		c.Read(b)
		row := rowOf(t, tag, b)
		wantRow(t, strconv.Itoa(n)+" bytes", row, tag, b, len(row))
	}
	for _, n := range edges() {
		tag := api.Tag{Count: 3, Number: n}
		row := rowOf(t, tag, some(n))
		wantRow(t, strconv.Itoa(n)+" bytes", row, tag, some(n), half.Need(n))
	}
}

// layer is a row that lies among others.
type layer struct {
	tag    api.Tag
	bytes  []byte
	halves [][]byte
}

// layerOf is a row of Split, cut in its halves.
func layerOf(t *testing.T, tag api.Tag, b []byte) layer {
	l := layer{tag: tag, bytes: b}
	for _, s := range rowOf(t, tag, b) {
		l.halves = append(l.halves, s[:64:64], s[64:])
	}
	l.halves = l.halves[:(len(b)+4+47)/48]
	return l
}

// pile is the halves of layers that are chosen, place by place (the last choice is noughts); what it begins with, if each of its halves is the one layer's.
func pile(layers []layer, chosen []int) ([]api.Sector, *layer) {
	all := make([]byte, (len(chosen)+1)/2*128)
	for place, which := range chosen {
		if which < len(layers) && place < len(layers[which].halves) {
			copy(all[64*place:], layers[which].halves[place])
		}
	}
	var l []api.Sector
	for s := range slices.Chunk(all, 128) {
		l = append(l, api.Sector(s))
	}
	if chosen[0] == len(layers) {
		return l, nil
	}
	first := &layers[chosen[0]]
	for place := range first.halves {
		if place >= len(chosen) || chosen[place] != chosen[0] {
			return l, nil
		}
	}
	return l, first
}

// wantPiles: of each choice of so many places, Join tells one of the layers, whole, or ErrBytes.
func wantPiles(t *testing.T, layers []layer, places int) {
	t.Helper()
	chosen := make([]int, places)
	for {
		l, first := pile(layers, chosen)
		if first == nil {
			wantNone(t, "halves that are mixed", l)
		} else {
			wantRow(t, "halves of one row", l, first.tag, first.bytes, half.Need(len(first.bytes)))
		}
		at := 0
		for ; at < places && chosen[at] == len(layers); at++ {
			chosen[at] = 0
		}
		if at == places {
			return
		}
		chosen[at]++
	}
}

// P2.3: rows of unlike tags and of one length, one over the other, in all ways.
func TestRowsOverOneAnother(t *testing.T) {
	for _, n := range []int{0, 44, 45, 92, 93, 140, 150, 188, 189, 200} {
		places := (n+4+47)/48 + 1
		one := layerOf(t, api.Tag{Count: 7, Number: 8}, some(n))
		count := layerOf(t, api.Tag{Count: 8, Number: 8}, make([]byte, n))
		number := layerOf(t, api.Tag{Count: 7, Number: 9}, some(n))
		high := layerOf(t, api.Tag{Count: 1<<62 - 1, Number: 1<<31 - 1}, slices.Repeat([]byte{255}, n))
		wantPiles(t, []layer{one, count}, places)
		wantPiles(t, []layer{one, number, high}, places)
	}
}

// P2.3: rows of unlike tags and lengths, one over the other, in all ways.
func TestUnlikeRowsOverOneAnother(t *testing.T) {
	one := layerOf(t, api.Tag{Count: 7, Number: 8}, some(30))
	two := layerOf(t, api.Tag{Count: 8, Number: 8}, some(90))
	three := layerOf(t, api.Tag{Count: 7, Number: 9}, some(140))
	four := layerOf(t, api.Tag{Count: 9, Number: 0}, some(188))
	wantPiles(t, []layer{one, two, three, four}, 4)
	wantPiles(t, []layer{two, four, three}, 5)
	wantPiles(t, []layer{four, one}, 6)
}

// P2.3: rows whose bytes look like halves of the others.
func TestRowsWithinRows(t *testing.T) {
	inner := layerOf(t, api.Tag{Count: 7, Number: 8}, some(140))
	var b []byte
	for _, h := range inner.halves {
		b = append(b, h...)
	}
	outer := layerOf(t, api.Tag{Count: 8, Number: 8}, b[:188])
	shifted := layerOf(t, api.Tag{Count: 9, Number: 8}, b[4:192])
	wantPiles(t, []layer{inner, outer, shifted}, 5)
}

// P2.3: long rows, each half of one of them, of chance.
func TestLongRowsOverOneAnother(t *testing.T) {
	c := rand.New(rand.NewSource(2))
	for range 300 {
		n := c.Intn(2000)
		a := layerOf(t, api.Tag{Count: 1 + uint64(c.Intn(3)), Number: c.Intn(3)}, some(n))
		b := layerOf(t, api.Tag{Count: 4 + uint64(c.Intn(3)), Number: c.Intn(3)}, some(n/2+c.Intn(n+1)))
		chosen := make([]int, max(len(a.halves), len(b.halves)))
		for from := range chosen {
			if c.Intn(8) == 0 {
				which := c.Intn(3)
				for at := from; at < len(chosen); at++ {
					chosen[at] = which
				}
			}
		}
		l, first := pile([]layer{a, b}, chosen)
		if first == nil {
			wantNone(t, "long halves that are mixed", l)
		} else {
			wantRow(t, "long halves of one row", l, first.tag, first.bytes, half.Need(len(first.bytes)))
		}
	}
}

// P0.6: no call panics, whatever stands in sectors.
func TestNoPanic(t *testing.T) {
	c := rand.New(rand.NewSource(3))
	for range 3000 {
		n := c.Intn(400)
		row := sectors(plainHalves(api.Tag{Count: 1 + uint64(c.Intn(2)), Number: c.Intn(2)}, some(n)))
		for range c.Intn(6) {
			row[c.Intn(len(row))][c.Intn(128)] = byte(c.Intn(256))
		}
		row = row[:c.Intn(len(row)+1)]
		tag, b, many, e := half.Join(row...)
		switch e {
		case api.OK:
			if again := rowOf(t, tag, b); len(again) != many || !half.May(tag) {
				t.Errorf("Join is %v, %d bytes, %d sectors", tag, len(b), many)
			}
		case api.ErrBytes:
			wantNone(t, "bytes of chance", row)
		default:
			t.Errorf("Join is %d", e)
		}
		for _, s := range row {
			if tag := half.Tag(s); tag != (api.Tag{}) && !half.May(tag) {
				t.Errorf("Tag is %v, that may not be", tag)
			}
		}
	}
}
