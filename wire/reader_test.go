package wire_test

import (
	"bytes"
	"math"
	"strings"
	"testing"

	"coupon/api"
	"coupon/wire"
)

// wantNothing: the reader takes nothing, and tells just that error.
func wantNothing(t *testing.T, what string, r *wire.Reader, e api.Errno) {
	t.Helper()
	for _, size := range []int{1, 2, 4, 8, 3} {
		if n := r.Number(size); n != 0 {
			t.Errorf("%s: Number(%d) is %d", what, size, n)
		}
	}
	if n := r.Int(); n != 0 {
		t.Errorf("%s: Int is %d", what, n)
	}
	if r.Flag() {
		t.Errorf("%s: Flag is yes", what)
	}
	for _, n := range []int{0, 1, -1} {
		if b := r.Bytes(n); len(b) > 0 {
			t.Errorf("%s: Bytes(%d) are % x", what, n, b)
		}
	}
	if b, s := r.Blob(), r.Text(); len(b) > 0 || s != "" {
		t.Errorf("%s: Blob is % x, Text %q", what, b, s)
	}
	if n := r.Count(); n != 0 {
		t.Errorf("%s: Count is %d", what, n)
	}
	if n := r.Left(); n != 0 {
		t.Errorf("%s: %d are left", what, n)
	}
	if is := r.End(); is != e {
		t.Errorf("%s: End is %d, not %d", what, is, e)
	}
}

// wantLeft: the reader goes on, and so many bytes are left.
func wantLeft(t *testing.T, what string, r *wire.Reader, left int) {
	t.Helper()
	want := api.OK
	if left > 0 {
		want = api.ErrBytes
	}
	if n, e := r.Left(), r.End(); n != left || e != want {
		t.Errorf("%s: %d are left, End is %d, not %d, %d", what, n, e, left, want)
	}
}

// P1.2: numbers of each size are taken, the highest byte first.
func TestReaderNumber(t *testing.T) {
	r := wire.Read([]byte{200, 1, 2, 3, 4, 5, 6, 7, 8, 9, 10, 11, 12, 13, 14, 99})
	for _, x := range []struct {
		size int
		want uint64
		left int
	}{
		{1, 200, 15}, {2, 0x0102, 13}, {4, 0x03040506, 9}, {8, 0x0708090a0b0c0d0e, 1}, {1, 99, 0},
	} {
		wantLeft(t, "Number, ahead", r, x.left+x.size)
		if n := r.Number(x.size); n != x.want {
			t.Errorf("Number(%d) is %x, not %x", x.size, n, x.want)
		}
		wantLeft(t, "Number", r, x.left)
	}
	wantNothing(t, "Number(1) of what was taken", r, api.ErrBytes)
	for _, size := range []int{1, 2, 4, 8} {
		r := wire.Read(bytes.Repeat([]byte{255}, size))
		if n := r.Number(size); n != math.MaxUint64>>(64-8*size) {
			t.Errorf("the greatest number of %d is %x", size, n)
		}
		wantLeft(t, "the greatest number", r, 0)
	}
}

// P1.2: Number fails of a size that may not be, and where fewer bytes are left, of which none is told.
func TestReaderNumberFails(t *testing.T) {
	for _, size := range []int{math.MinInt, -8, -1, 0, 3, 5, 6, 7, 9, 16, 1<<32 + 1, math.MaxInt} {
		r := wire.Read(bytes.Repeat([]byte{1}, 20))
		if n := r.Number(size); n != 0 {
			t.Errorf("Number(%d) is %d", size, n)
		}
		wantNothing(t, "a size that may not be", r, api.ErrBytes)
	}
	for _, size := range []int{1, 2, 4, 8} {
		for many := range size {
			r := wire.Read(bytes.Repeat([]byte{1}, many))
			if n := r.Number(size); n != 0 {
				t.Errorf("Number(%d) of %d bytes is %d", size, many, n)
			}
			wantNothing(t, "fewer bytes", r, api.ErrBytes)
		}
	}
}

// P1.2: whole numbers.
func TestReaderInt(t *testing.T) {
	for _, x := range []struct {
		b    []byte
		want int64
	}{
		{[]byte{0, 0, 0, 0, 0, 0, 1, 2}, 258},
		{[]byte{255, 255, 255, 255, 255, 255, 255, 255}, -1},
		{[]byte{255, 255, 255, 255, 255, 255, 254, 254}, -258},
		{[]byte{127, 255, 255, 255, 255, 255, 255, 255}, math.MaxInt64},
		{[]byte{128, 0, 0, 0, 0, 0, 0, 0}, math.MinInt64},
	} {
		r := wire.Read(append(x.b, 1))
		if n := r.Int(); n != x.want {
			t.Errorf("Int of % x is %d", x.b, n)
		}
		wantLeft(t, "Int", r, 1)
	}
	r := wire.Read([]byte{255, 255, 255, 255, 255, 255, 255})
	if n := r.Int(); n != 0 {
		t.Errorf("Int of 7 bytes is %d", n)
	}
	wantNothing(t, "Int of 7 bytes", r, api.ErrBytes)
}

// P1.2: a flag is a byte 0 or 1.
func TestReaderFlag(t *testing.T) {
	r := wire.Read([]byte{1, 0, 1})
	if !r.Flag() || r.Flag() || !r.Flag() {
		t.Errorf("flags are others")
	}
	wantLeft(t, "Flag", r, 0)
	for b := 2; b < 256; b++ {
		r := wire.Read([]byte{byte(b), 1, 1})
		if r.Flag() {
			t.Errorf("a flag of %d is yes", b)
		}
		wantNothing(t, "a flag of another byte", r, api.ErrBytes)
	}
	empty := wire.Read(nil)
	if empty.Flag() {
		t.Errorf("a flag of no byte is yes")
	}
	wantNothing(t, "a flag of no byte", empty, api.ErrBytes)
}

// P1.2: bytes as they are; too many, and below 0, fail.
func TestReaderBytes(t *testing.T) {
	r := wire.Read([]byte("abcde"))
	if b := r.Bytes(0); len(b) > 0 {
		t.Errorf("no bytes are %q", b)
	}
	wantLeft(t, "Bytes(0)", r, 5)
	if b := r.Bytes(2); string(b) != "ab" {
		t.Errorf("two bytes are %q", b)
	}
	wantLeft(t, "Bytes(2)", r, 3)
	if b := r.Bytes(3); string(b) != "cde" {
		t.Errorf("three bytes are %q", b)
	}
	wantLeft(t, "Bytes(3)", r, 0)
	if b := r.Bytes(0); len(b) > 0 {
		t.Errorf("no bytes are %q", b)
	}
	wantLeft(t, "Bytes(0) at the end", r, 0)
	for _, n := range []int{math.MinInt, -2, -1, 4, 5, 1 << 31, 1 << 32, math.MaxInt} {
		r := wire.Read([]byte("abc"))
		if b := r.Bytes(n); len(b) > 0 {
			t.Errorf("Bytes(%d) are %q", n, b)
		}
		wantNothing(t, "bytes that there are not", r, api.ErrBytes)
	}
}

// P1.2: blobs and texts stand behind their length.
func TestReaderBlob(t *testing.T) {
	b := []byte("\x00\x00\x00\x02a\xff\x00\x00\x00\x00\x00\x00\x00\x03\xc3\xa9b\x09")
	r := wire.Read(b)
	if x, y, z := r.Blob(), r.Blob(), r.Blob(); string(x) != "a\xff" || len(y) > 0 || string(z) != "\xc3\xa9b" {
		t.Errorf("blobs are %q, %q, %q", x, y, z)
	}
	wantLeft(t, "Blob", r, 1)
	r = wire.Read(b)
	if x, y, z := r.Text(), r.Text(), r.Text(); x != "a\xff" || y != "" || z != "\xc3\xa9b" {
		t.Errorf("texts are %q, %q, %q", x, y, z)
	}
	wantLeft(t, "Text", r, 1)
}

// P1.2: a blob fails where fewer bytes are left.
func TestReaderBlobFails(t *testing.T) {
	for _, s := range []string{"", "\x00", "\x00\x00\x00", "\x00\x00\x00\x01", "\x00\x00\x00\x03ab", "\x00\x00\x01\x00ab", "\x01\x00\x00\x00a", "\xff\xff\xff\xffa", "\x80\x00\x00\x00a", "\x7f\xff\xff\xffa"} {
		r := wire.Read([]byte(s))
		if b := r.Blob(); len(b) > 0 {
			t.Errorf("Blob of %q is %q", s, b)
		}
		wantNothing(t, "a blob that is too long", r, api.ErrBytes)
		r = wire.Read([]byte(s))
		if x := r.Text(); x != "" {
			t.Errorf("Text of %q is %q", s, x)
		}
		wantNothing(t, "a text that is too long", r, api.ErrBytes)
	}
}

// P1.2: a blob of MaxBlob is taken; a longer one is not, though its bytes are there.
func TestReaderMaxBlob(t *testing.T) {
	body := strings.Repeat("m", api.MaxBlob)
	most := []byte("\x01\x00\x00\x00" + body)
	if r := wire.Read(most); string(r.Blob()) != body || r.End() != api.OK {
		t.Errorf("a blob of MaxBlob is not taken")
	}
	if r := wire.Read(most); r.Text() != body || r.End() != api.OK {
		t.Errorf("a text of MaxBlob is not taken")
	}
	more := []byte("\x01\x00\x00\x01" + body + "mm")
	r := wire.Read(more)
	if b := r.Blob(); len(b) > 0 {
		t.Errorf("a blob above MaxBlob has %d bytes", len(b))
	}
	wantNothing(t, "a blob above MaxBlob", r, api.ErrBytes)
	r = wire.Read(more)
	if s := r.Text(); s != "" {
		t.Errorf("a text above MaxBlob has %d bytes", len(s))
	}
	wantNothing(t, "a text above MaxBlob", r, api.ErrBytes)
	r = wire.Read(more)
	if b := r.Bytes(api.MaxBlob + 1); len(b) != api.MaxBlob+1 {
		t.Errorf("%d bytes are taken, not one above MaxBlob", len(b))
	}
}

// P1.2: a count is a number of 2 bytes.
func TestReaderCount(t *testing.T) {
	r := wire.Read([]byte{0, 0, 1, 2, 255, 255, 9})
	if x, y, z := r.Count(), r.Count(), r.Count(); x != 0 || y != 258 || z != 65535 {
		t.Errorf("counts are %d, %d, %d", x, y, z)
	}
	wantLeft(t, "Count", r, 1)
	if n := r.Count(); n != 0 {
		t.Errorf("a count of one byte is %d", n)
	}
	wantNothing(t, "a count of one byte", r, api.ErrBytes)
}

// P1.2: a reader that fails takes nothing more, whether bytes are left, or none.
func TestReaderFail(t *testing.T) {
	for _, s := range []string{"", "\x01\x01\x01\x01\x01\x01\x01\x01\x01\x01"} {
		r := wire.Read([]byte(s))
		r.Fail()
		wantNothing(t, "Fail", r, api.ErrBytes)
		r.Fail()
		wantNothing(t, "Fail, twice", r, api.ErrBytes)
	}
	r := wire.Read([]byte{7})
	if r.Number(1) != 7 || r.End() != api.OK {
		t.Errorf("a byte is not taken")
	}
	r.Fail()
	wantNothing(t, "Fail behind the last byte", r, api.ErrBytes)
}

// P1.2: nil readers and zero ones are alike; one of no bytes is neither.
func TestReaderNilAndZero(t *testing.T) {
	var none *wire.Reader
	wantNothing(t, "nil", none, api.ErrNil)
	none.Fail()
	wantNothing(t, "nil that failed", none, api.ErrNil)
	wantNothing(t, "zero", new(wire.Reader), api.ErrNil)
	zero := new(wire.Reader)
	zero.Fail()
	wantNothing(t, "zero that failed", zero, api.ErrNil)
	for _, b := range [][]byte{nil, {}} {
		r := wire.Read(b)
		wantLeft(t, "no bytes", r, 0)
		if b := r.Bytes(0); len(b) > 0 {
			t.Errorf("no bytes have % x", b)
		}
		wantLeft(t, "no bytes, taken", r, 0)
	}
}

// P1.2: End tells what is left, and the reader goes on.
func TestReaderGoesOnBehindEnd(t *testing.T) {
	r := wire.Read([]byte{5, 6})
	wantLeft(t, "ahead", r, 2)
	if n := r.Number(1); n != 5 {
		t.Errorf("the first is %d", n)
	}
	wantLeft(t, "between", r, 1)
	if n := r.Number(1); n != 6 {
		t.Errorf("the second is %d", n)
	}
	wantLeft(t, "behind", r, 0)
	wantLeft(t, "behind, again", r, 0)
}

// P1.2: a reader is of a copy; what it answers is new memory.
func TestReaderSharesNothing(t *testing.T) {
	given := []byte("abc\x00\x00\x00\x02dexyz")
	r := wire.Read(given)
	given[0], given[7], given[9] = '-', '-', '-'
	b := r.Bytes(3)
	if string(b) != "abc" {
		t.Errorf("bytes are %q", b)
	}
	b[0] = '+'
	_ = append(b, "++++++"...)
	blob := r.Blob()
	if string(blob) != "de" {
		t.Errorf("the blob is %q", blob)
	}
	_ = append(blob, "++"...)
	if rest := r.Bytes(3); string(rest) != "xyz" {
		t.Errorf("the rest is %q", rest)
	}
	if string(given) != "-bc\x00\x00\x00\x02-e-yz" {
		t.Errorf("what was handed in is %q", given)
	}
}
