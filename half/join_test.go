package half_test

import (
	"encoding/binary"
	"math"
	"slices"
	"strconv"
	"testing"

	"coupon/api"
	"coupon/half"
)

// P2.2: Join is the row, however many bytes it has, whatever stands behind it.
func TestJoin(t *testing.T) {
	tag := api.Tag{Count: 7, Number: 8}
	for _, n := range edges() {
		b := some(n)
		row := sectors(plainHalves(tag, b))
		what := strconv.Itoa(n) + " bytes"
		wantRow(t, what, row, tag, b, len(row))
		wantRow(t, what+", noughts behind", append(row, api.Sector{}, api.Sector{}), tag, b, len(row))
		wantRow(t, what+", bytes behind", append(row, api.Sector(some(128))), tag, b, len(row))
		wantRow(t, what+", itself behind", append(row, row...), tag, b, len(row))
		wantRow(t, what+", another row behind", append(row, sectors(plainHalves(api.Tag{Count: 7, Number: 9}, some(90)))...), tag, b, len(row))
	}
}

// P2.2: Join tells the tag, whichever may be.
func TestJoinOfTags(t *testing.T) {
	for _, tag := range tags() {
		wantRow(t, "a tag", sectors(plainHalves(tag, some(150))), tag, some(150), 2)
		wantRow(t, "a tag of a short row", sectors(plainHalves(tag, some(3))), tag, some(3), 1)
	}
}

// P2.2: the half behind the last one is not looked at, where it is a sector's second one.
func TestJoinLooksNoFurther(t *testing.T) {
	tag := api.Tag{Count: 7, Number: 8}
	for _, n := range []int{0, 44, 93, 140, 200} {
		row := sectors(plainHalves(tag, some(n)))
		last := len(row) - 1
		for what, behind := range map[string][]byte{
			"bytes":                   some(64),
			"the greatest bytes":      slices.Repeat([]byte{255}, 64),
			"the first half again":    row[0][:64],
			"a half of another row":   plain{count: 8, number: 8, place: uint16(2*last + 1), many: uint16(2*last + 2)}.halfBytes(),
			"a half that would go on": plain{count: 7, number: 8, place: uint16(2*last + 1), many: uint16(2*last + 1)}.halfBytes(),
		} {
			l := slices.Clone(row)
			copy(l[last][64:], behind)
			wantRow(t, what+" behind "+strconv.Itoa(n), l, tag, some(n), len(row))
		}
	}
}

// P2.2: no sectors, sectors of noughts, of whatever bytes begin with no row.
func TestJoinOfNoRow(t *testing.T) {
	wantNone(t, "no sectors", nil)
	wantNone(t, "no sectors, not nil", []api.Sector{})
	wantNone(t, "noughts", make([]api.Sector, 1))
	wantNone(t, "many noughts", make([]api.Sector, 400))
	wantNone(t, "bytes", []api.Sector{api.Sector(some(128)), api.Sector(some(128))})
	wantNone(t, "the greatest bytes", []api.Sector{api.Sector(slices.Repeat([]byte{255}, 128))})
	row := rowOf(t, api.Tag{Count: 1}, some(200))
	wantNone(t, "noughts ahead", append([]api.Sector{{}}, row...))
	wantNone(t, "all but the first sector", row[1:])
	wantNone(t, "the last sector", row[2:])
}

// P2.2: a row is none where a sector is missing, at its end or within it, or where two are mixed.
func TestJoinOfMissingSectors(t *testing.T) {
	tag := api.Tag{Count: 7, Number: 8}
	for _, n := range []int{93, 150, 188, 189, 300, 1000, api.MaxRow} {
		row := sectors(plainHalves(tag, some(n)))
		what := strconv.Itoa(n) + " bytes"
		wantNone(t, what+", the last sector missing", row[:len(row)-1])
		wantNone(t, what+", the first sector alone", row[:1])
		for at := range min(len(row), 12) {
			wantNone(t, what+", a sector gone", slices.Delete(slices.Clone(row), at, at+1))
			l := slices.Clone(row)
			l[at] = api.Sector{}
			wantNone(t, what+", a sector of noughts", l)
			wantNone(t, what+", a sector put in", slices.Insert(slices.Clone(row), at, api.Sector{}))
			l = slices.Clone(row)
			l[0], l[at] = l[at], l[0]
			if at > 0 {
				wantNone(t, what+", sectors mixed", l)
			}
		}
	}
}

// P2.2: a row is none where one of its sectors is torn, with noughts, or with another row's.
func TestJoinOfTornSectors(t *testing.T) {
	tag := api.Tag{Count: 7, Number: 8}
	for what, other := range map[string][]plain{
		"noughts":        make([]plain, 5),
		"another count":  plainHalves(api.Tag{Count: 8, Number: 8}, some(200)),
		"another number": plainHalves(api.Tag{Count: 7, Number: 9}, some(200)),
		"a high count":   plainHalves(api.Tag{Count: 7 + 1<<56, Number: 8}, some(200)),
		"a high number":  plainHalves(api.Tag{Count: 7, Number: 8 + 1<<24}, some(200)),
		"a longer row":   plainHalves(tag, some(250)),
		"a shorter row":  append(plainHalves(tag, some(150)), plain{}),
	} {
		row, over := sectors(plainHalves(tag, some(200))), sectors(other)
		for at := range 3 {
			l := slices.Clone(row)
			l[at] = half.Torn(over[at], row[at])
			wantNone(t, what+" in a first half", l)
			if at < 2 { // the last sector has one half
				l[at] = half.Torn(row[at], over[at])
				wantNone(t, what+" in a second half", l)
			}
			l[at] = over[at]
			wantNone(t, what+" in a sector", l)
		}
	}
}

// P2.2: a row torn with noughts, as the chapter's example has it.
func TestJoinOfExample(t *testing.T) {
	row := rowOf(t, api.Tag{Count: 1}, some(60))
	wantNone(t, "torn with noughts", []api.Sector{half.Torn(row[0], api.Sector{})})
	wantNone(t, "torn with noughts, the other way", []api.Sector{half.Torn(api.Sector{}, row[0])})
}

// P2.2: each bit of a row's heads counts: of the tag (all halves), of the place, of how many there are.
func TestJoinOfChangedHeads(t *testing.T) {
	tag := api.Tag{Count: 7, Number: 8}
	row := sectors(plainHalves(tag, some(150)))
	for place := range 4 {
		for at := range 16 {
			for bit := range 8 {
				l := slices.Clone(row)
				l[place/2][place%2*64+at] ^= 1 << bit
				wantNone(t, "bit "+strconv.Itoa(bit)+" of byte "+strconv.Itoa(at)+" of half "+strconv.Itoa(place), l)
			}
		}
	}
}

// P2.2: halves that all bear a tag that may not be are no row's.
func TestJoinOfUnfitTags(t *testing.T) {
	for _, tag := range unfit() {
		if tag.Number < 0 || tag.Number >= 1<<32 { // it has no room in a half
			continue
		}
		for _, n := range []int{0, 44, 45, 150, 200} {
			wantNone(t, "a tag that may not be", sectors(plainHalves(tag, some(n))))
		}
	}
}

// forged is a row of 150 bytes (four halves), each half changed.
func forged(change func(i int, p *plain)) []api.Sector {
	l := plainHalves(api.Tag{Count: 7, Number: 8}, some(150))
	for i := range l {
		change(i, &l[i])
	}
	return sectors(l)
}

// P2.2: the places are 0, 1, 2 .., in all halves.
func TestJoinOfPlaces(t *testing.T) {
	for what, change := range map[string]func(i int, p *plain){
		"from 1 on":       func(i int, p *plain) { p.place++ },
		"from 256 on":     func(i int, p *plain) { p.place += 256 },
		"from 65535 on":   func(i int, p *plain) { p.place-- },
		"all 0":           func(i int, p *plain) { p.place = 0 },
		"downwards":       func(i int, p *plain) { p.place = uint16(3 - i) },
		"of the sectors":  func(i int, p *plain) { p.place = uint16(i / 2) },
		"in the sectors":  func(i int, p *plain) { p.place = uint16(i % 2) },
		"one left out":    func(i int, p *plain) { p.place += uint16(i / 2) },
		"the last one 0":  func(i int, p *plain) { p.place %= 3 },
		"the first one 4": func(i int, p *plain) { p.place = []uint16{4, 1, 2, 3}[i] },
	} {
		wantNone(t, "places "+what, forged(change))
	}
}

// P2.2: the number of halves is the same in all of them, and just what the length needs.
func TestJoinOfHowMany(t *testing.T) {
	wantRow(t, "unchanged", forged(func(int, *plain) {}), api.Tag{Count: 7, Number: 8}, some(150), 2)
	for _, many := range []uint16{0, 1, 2, 3, 5, 6, 7, 8, 255, 260, 1024, 65535} {
		what := strconv.Itoa(int(many)) + " halves"
		l := forged(func(i int, p *plain) { p.many = many })
		wantNone(t, what, l)
		wantNone(t, what+", noughts behind", append(l, make([]api.Sector, 700)...))
		for at := range 4 {
			wantNone(t, what+" in one half", forged(func(i int, p *plain) {
				if i == at {
					p.many = many
				}
			}))
		}
	}
}

// longRow are so many halves, all of noughts, that belong together; the length is whatever it is.
func longRow(many int, length uint32) []api.Sector {
	l := make([]plain, many)
	for i := range l {
		l[i] = plain{count: 7, number: 8, place: uint16(i), many: uint16(many)}
	}
	if many > 0 {
		binary.BigEndian.PutUint32(l[0].piece[:], length)
	}
	return sectors(l)
}

// P2.2: the length is one that needs just so many halves, and that a row may have.
func TestJoinOfLengths(t *testing.T) {
	tag := api.Tag{Count: 7, Number: 8}
	for _, many := range []int{1, 2, 3, 4, 5, 342, 682, 683} {
		for _, to := range []int{1, many - 1, many, many + 1} {
			for n := max(48*(to-1)-5, 0); n <= 48*to+1; n++ {
				what := strconv.Itoa(n) + " bytes in " + strconv.Itoa(many) + " halves"
				if n <= api.MaxRow && 48*(many-1) < n+4 && n+4 <= 48*many {
					wantRow(t, what, longRow(many, uint32(n)), tag, make([]byte, n), (many+1)/2)
				} else {
					wantNone(t, what, longRow(many, uint32(n)))
				}
			}
		}
		for _, n := range []uint32{api.MaxRow + 1, 1 << 16, 1 << 24, 1<<31 - 1, 1 << 31, 1<<31 + 1, math.MaxUint32 - 4, math.MaxUint32 - 3, math.MaxUint32} {
			wantNone(t, "a length of "+strconv.FormatUint(uint64(n), 10), longRow(many, n))
		}
	}
	for _, many := range []int{684, 685, 800, 1366} {
		for _, n := range []int{0, 44, api.MaxRow, api.MaxRow + 1, 48*many - 5, 48*many - 4} {
			wantNone(t, "too many halves", longRow(many, uint32(n)))
		}
	}
	wantNone(t, "the most halves that can be told", longRow(65535, 65535*48-4))
}

// P2.2: behind the bytes are noughts, in each place.
func TestJoinOfNoughtsBehind(t *testing.T) {
	tag := api.Tag{Count: 7, Number: 8}
	for _, n := range []int{0, 1, 43, 45, 46, 91, 100, 141, 187, api.MaxRow} {
		row := sectors(plainHalves(tag, some(n)))
		many := (n + 4 + 47) / 48
		for at := n + 4; at < 48*many; at++ {
			for _, x := range []byte{1, 128, 255} {
				l := slices.Clone(row)
				place := at / 48
				l[place/2][place%2*64+16+at%48] = x
				wantNone(t, "a byte "+strconv.Itoa(at)+" behind "+strconv.Itoa(n), l)
			}
		}
	}
}

// P2.2: what is answered is new memory, and no two answers share any.
func TestJoinSharesNothing(t *testing.T) {
	tag := api.Tag{Count: 7, Number: 8}
	for _, n := range []int{1, 44, 150} {
		row := sectors(plainHalves(tag, some(n)))
		_, first, _, _ := half.Join(row...)
		_, second, _, _ := half.Join(row...)
		clear(first)
		_ = append(first, 1, 2, 3)
		if !slices.Equal(second, some(n)) {
			t.Errorf("%d bytes change with another answer", n)
		}
		wantRow(t, "behind a change of an answer", row, tag, some(n), len(row))
		clear(row)
		if !slices.Equal(second, some(n)) {
			t.Errorf("%d bytes change with what was handed in", n)
		}
	}
}

// P2.2: Tag is the tag that stands in the first half, whatever else stands there.
func TestTag(t *testing.T) {
	for _, tag := range tags() {
		for i, s := range sectors(plainHalves(tag, some(200))) {
			if is := half.Tag(s); is != tag {
				t.Errorf("Tag of sector %d of %v is %v", i, tag, is)
			}
			if is := half.Tag(half.Torn(s, api.Sector(some(128)))); is != tag {
				t.Errorf("Tag of sector %d of %v, torn, is %v", i, tag, is)
			}
			if is := half.Tag(half.Torn(api.Sector{}, s)); is != (api.Tag{}) {
				t.Errorf("Tag of a second half of %v is %v", tag, is)
			}
		}
		other := sectors([]plain{
			{count: tag.Count, number: uint32(tag.Number), place: 65535, many: 1, piece: [48]byte(some(48))},
			{count: 5, number: 5, place: 1, many: 2},
		})
		if is := half.Tag(other[0]); is != tag {
			t.Errorf("Tag of a half of no row, of %v, is %v", tag, is)
		}
	}
}

// P2.2: Tag is a zero one, where none may be.
func TestTagOfNone(t *testing.T) {
	for _, tag := range append(unfit(), api.Tag{}) {
		if tag.Number < 0 || tag.Number >= 1<<32 { // it has no room in a half
			continue
		}
		s := sectors([]plain{{count: tag.Count, number: uint32(tag.Number), many: 2}, {count: 1, number: 1, place: 1, many: 2}})[0]
		if is := half.Tag(s); is != (api.Tag{}) {
			t.Errorf("Tag where %v stands is %v", tag, is)
		}
	}
	if is := half.Tag(api.Sector(slices.Repeat([]byte{255}, 128))); is != (api.Tag{}) {
		t.Errorf("Tag of the greatest bytes is %v", is)
	}
}

// P2.2: Torn is the first half of the one, the second half of the other one.
func TestTorn(t *testing.T) {
	var first, second, want api.Sector
	for i := range first {
		first[i], second[i] = byte(i), byte(255-i)
		want[i] = byte(i)
		if i >= 64 {
			want[i] = byte(255 - i)
		}
	}
	one, other := first, second
	if is := half.Torn(first, second); is != want {
		t.Errorf("Torn is % x", is)
	}
	if first != one || second != other {
		t.Error("Torn changes what is handed in")
	}
	if is := half.Torn(first, first); is != first {
		t.Errorf("Torn of one and the same is % x", is)
	}
	if is := half.Torn(half.Torn(first, second), half.Torn(second, first)); is != first {
		t.Errorf("Torn of two torn ones is % x", is)
	}
}
