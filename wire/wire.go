// Package wire is layer 1, numbers and texts as bytes: see shared/doc/01-wire.md.
package wire

import (
	"slices"
	"strings"

	"coupon/api"
)

// Writer puts things behind one another; a zero one has put nothing.
type Writer struct {
	done   []byte
	failed bool
}

// Number puts a number of a size.
func (w *Writer) Number(n uint64, size int) *Writer {
	if !maySize(size) || n>>(8*size) > 0 {
		return w.fail()
	}
	var b [8]byte
	for at := range b {
		b[at] = byte(n >> (8 * (7 - at)))
	}
	return w.Bytes(b[8-size:])
}

// Int puts a whole number.
func (w *Writer) Int(n int64) *Writer { return w.Number(uint64(n), 8) }

// Flag puts a byte 1 or 0.
func (w *Writer) Flag(is bool) *Writer {
	if is {
		return w.Number(1, 1)
	}
	return w.Number(0, 1)
}

// Bytes puts bytes as they are.
func (w *Writer) Bytes(b []byte) *Writer {
	if w != nil && !w.failed {
		w.done = append(w.done, b...)
	}
	return w
}

// Blob puts bytes behind their length.
func (w *Writer) Blob(b []byte) *Writer {
	if len(b) > api.MaxBlob {
		return w.fail()
	}
	return w.Number(uint64(len(b)), 4).Bytes(b)
}

// Text puts a text's bytes behind their length.
func (w *Writer) Text(s string) *Writer { return w.Blob([]byte(s)) }

// Count puts how many a list has.
func (w *Writer) Count(n int) *Writer {
	// What is below 0 turns into a number that is far too great for 2 bytes.
	return w.Number(uint64(n), 2)
}

// Len is how many bytes were put.
func (w *Writer) Len() int {
	if w == nil {
		return 0
	}
	return len(w.done)
}

// End is all that was put.
func (w *Writer) End() ([]byte, api.Errno) {
	switch {
	case w == nil:
		return nil, api.ErrNil
	case w.failed:
		return nil, api.ErrArg
	}
	return slices.Clone(w.done), api.OK
}

// fail lets go what was put, so that a failed writer has nothing to tell of it.
func (w *Writer) fail() *Writer {
	if w != nil {
		*w = Writer{failed: true}
	}
	return w
}

// Reader takes things off; a zero one is as a nil one.
type Reader struct {
	left   []byte
	failed bool
	made   bool // a zero one was made by nobody
}

// Read is a reader of a copy of bytes.
func Read(b []byte) *Reader { return &Reader{left: slices.Clone(b), made: true} }

// Number takes a number of a size.
func (r *Reader) Number(size int) uint64 {
	if !maySize(size) || !r.has(size) {
		r.Fail()
		return 0
	}
	switch size {
	case 1:
		return r.one()
	case 2:
		return r.two()
	case 4:
		return r.four()
	}
	return r.eight()
}

// Int takes a whole number.
func (r *Reader) Int() int64 { return int64(r.Number(8)) }

// Flag takes a byte 1 or 0.
func (r *Reader) Flag() bool {
	n := r.Number(1)
	if n > 1 {
		r.Fail()
	}
	return n == 1
}

// Bytes takes so many bytes.
func (r *Reader) Bytes(n int) []byte {
	if n < 0 || !r.has(n) {
		r.Fail()
		return nil
	}
	b := slices.Clone(r.left[:n])
	r.left = r.left[n:]
	return b
}

// Blob takes bytes that stand behind their length.
func (r *Reader) Blob() []byte {
	n := r.Number(4)
	if n > api.MaxBlob {
		r.Fail()
		return nil
	}
	return r.Bytes(int(n))
}

// Text takes a text that stands behind its length.
func (r *Reader) Text() string { return string(r.Blob()) }

// Count takes how many a list has.
func (r *Reader) Count() int { return int(r.Number(2)) }

// Left is how many bytes are left.
func (r *Reader) Left() int {
	if r == nil {
		return 0
	}
	return len(r.left)
}

// Fail fails: nothing is taken any more.
func (r *Reader) Fail() {
	if r != nil {
		r.left, r.failed = nil, true
	}
}

// End tells whether all was taken, and nothing failed.
func (r *Reader) End() api.Errno {
	switch {
	case r == nil || !r.made:
		return api.ErrNil
	case r.failed || len(r.left) > 0:
		return api.ErrBytes
	}
	return api.OK
}

// has: are so many bytes left?
func (r *Reader) has(n int) bool { return r != nil && n <= len(r.left) }

// one takes a byte that is there, as two, four and eight take what is there.
func (r *Reader) one() uint64 {
	b := r.left[0]
	r.left = r.left[1:]
	return uint64(b)
}

func (r *Reader) two() uint64 { return r.one()<<8 | r.one() }

func (r *Reader) four() uint64 { return twice(r.two, 16) }

func (r *Reader) eight() uint64 { return twice(r.four, 32) }

// twice is a number of two halves, the higher one taken first; a half has so many bits.
func twice(half func() uint64, bits int) uint64 {
	high := half()
	return high<<bits | half()
}

// maySize: may a number be of that size?
func maySize(size int) bool { return size == 1 || size == 2 || size == 4 || size == 8 }

// Digits are two for each byte.
func Digits(b []byte) string {
	const digits = "0123456789abcdef"
	var s strings.Builder
	for _, x := range b {
		s.WriteByte(digits[x>>4])
		s.WriteByte(digits[x&15])
	}
	return s.String()
}

// OfDigits are the bytes of digits.
func OfDigits(s string) ([]byte, api.Errno) {
	l, all := worths(s, 16)
	if !all || len(l)%2 > 0 {
		return nil, api.ErrBytes
	}
	b := make([]byte, len(l)/2)
	for i := range b {
		b[i] = l[2*i]<<4 | l[2*i+1]
	}
	return b, api.OK
}

// Decimal is the number of decimal digits, at most so great.
func Decimal(s string, most uint64) (uint64, api.Errno) {
	l, all := worths(s, 10)
	if !all || len(l) == 0 || len(l) > 1 && l[0] == 0 {
		return 0, api.ErrBytes
	}
	var n uint64
	for _, x := range l {
		d := uint64(x)
		// Asked ahead of the step, for the step might wrap round.
		if d > most || n > (most-d)/10 {
			return 0, api.ErrRange
		}
		n = n*10 + d
	}
	return n, api.OK
}

// Signed is the whole number of decimal digits, at most so far from 0.
func Signed(s string, most int64) (int64, api.Errno) {
	rest, below := strings.CutPrefix(s, "-")
	if below && rest == "0" {
		return 0, api.ErrBytes
	}
	n, e := Decimal(rest, uint64(max(most, 0)))
	switch {
	case e != api.OK:
		return 0, e
	case most < 0:
		return 0, api.ErrRange
	case below:
		return -int64(n), api.OK
	}
	return int64(n), api.OK
}

// worths are what the runes of a text are worth as digits of a base, up to the first that is none; are all of them digits?
func worths(s string, base rune) ([]byte, bool) {
	l := make([]byte, 0, len(s))
runes:
	for _, c := range s {
		switch {
		case '0' <= c && c <= '9':
			l = append(l, byte(c-'0'))
		case 'a' <= c && c < 'a'+base-10:
			l = append(l, byte(c-'a'+10))
		default:
			break runes
		}
	}
	return l, len(l) == len(s) // a digit's rune is one byte
}
