package wire_test

import (
	"bytes"
	"math"
	"testing"

	"coupon/api"
	"coupon/wire"
)

// chance makes numbers that are mixed, and the same in each run.
type chance uint64

func (c *chance) next() uint64 {
	*c = *c*6364136223846793005 + 1442695040888963407
	x := uint64(*c)
	return x ^ x>>29
}

// below is a number below another one.
func (c *chance) below(n int) int { return int(c.next() >> 1 % uint64(n)) }

// thing is something that was put: how it is taken, and whether that is the same.
type thing func(r *wire.Reader) bool

// some are bytes of chance.
func (c *chance) some() []byte {
	b := make([]byte, c.below(40))
	for i := range b {
		b[i] = byte(c.next())
	}
	return b
}

// put puts something of chance.
func (c *chance) put(w *wire.Writer) thing {
	switch c.below(7) {
	case 0:
		size := 1 << c.below(4)
		n := c.next() >> (64 - 8*size)
		w.Number(n, size)
		return func(r *wire.Reader) bool { return r.Number(size) == n }
	case 1:
		n := int64(c.next()) >> c.below(64)
		w.Int(n)
		return func(r *wire.Reader) bool { return r.Int() == n }
	case 2:
		is := c.below(2) > 0
		w.Flag(is)
		return func(r *wire.Reader) bool { return r.Flag() == is }
	case 3:
		b := c.some()
		w.Bytes(b)
		return func(r *wire.Reader) bool { return bytes.Equal(r.Bytes(len(b)), b) }
	case 4:
		b := c.some()
		w.Blob(b)
		return func(r *wire.Reader) bool { return bytes.Equal(r.Blob(), b) }
	case 5:
		s := string(c.some())
		w.Text(s)
		return func(r *wire.Reader) bool { return r.Text() == s }
	}
	n := c.below(65536)
	w.Count(n)
	return func(r *wire.Reader) bool { return r.Count() == n }
}

// P1.4: what was put, in order, is taken so, and nothing is left.
func TestWhatWasPutIsTaken(t *testing.T) {
	c := chance(1)
	for run := range 500 {
		w := new(wire.Writer)
		var l []thing
		for range c.below(30) {
			l = append(l, c.put(w))
		}
		b, e := w.End()
		if e != api.OK || len(b) != w.Len() {
			t.Fatalf("run %d: End is %d bytes of %d, %d", run, len(b), w.Len(), e)
		}
		r := wire.Read(b)
		for i, same := range l {
			if !same(r) {
				t.Fatalf("run %d: thing %d is taken as another one", run, i)
			}
		}
		if r.Left() != 0 || r.End() != api.OK {
			t.Fatalf("run %d: %d are left, End is %d", run, r.Left(), r.End())
		}
	}
}

// P1.4, P1.2: where the last byte of what was put is gone, something fails; a byte more is left.
func TestWhatWasPutIsTakenWhole(t *testing.T) {
	c := chance(2)
	for run := range 500 {
		w := new(wire.Writer)
		l := []thing{c.put(w), c.put(w), c.put(w)}
		b, _ := w.Flag(true).End()
		takes := func(b []byte) *wire.Reader {
			r := wire.Read(b)
			for _, same := range l {
				same(r)
			}
			r.Flag()
			return r
		}
		if r := takes(b[:len(b)-1]); r.End() != api.ErrBytes || r.Left() != 0 {
			t.Errorf("run %d: what is cut off is taken", run)
		}
		if r := takes(append(b, 0)); r.End() != api.ErrBytes || r.Left() != 1 {
			t.Errorf("run %d: what is too long is taken", run)
		}
	}
}

// P0.6: no call panics, on whatever writer, of whatever arguments.
func TestWritersDoNotPanic(t *testing.T) {
	failed := func() *wire.Writer { return new(wire.Writer).Count(-1) }
	for _, fresh := range []func() *wire.Writer{func() *wire.Writer { return nil }, func() *wire.Writer { return new(wire.Writer) }, failed} {
		for _, n := range []int{math.MinInt, -1, 0, 1, 3, 8, 65536, math.MaxInt} {
			fresh().Number(uint64(n), n).Int(int64(n)).Count(n).Bytes(nil).Blob(nil).Text("").Flag(true).Len()
			fresh().Count(n).End()
			fresh().Number(0, n).End()
		}
	}
}

// P0.6: no call panics, on whatever reader, of whatever arguments.
func TestReadersDoNotPanic(t *testing.T) {
	for _, fresh := range []func() *wire.Reader{
		func() *wire.Reader { return nil },
		func() *wire.Reader { return new(wire.Reader) },
		func() *wire.Reader { return wire.Read(nil) },
		func() *wire.Reader { return wire.Read([]byte{255, 255, 255, 255, 255, 255, 255, 255, 255}) },
	} {
		for _, n := range []int{math.MinInt, -1, 0, 1, 3, 8, 10, 65536, math.MaxInt} {
			fresh().Number(n)
			fresh().Bytes(n)
		}
		for _, call := range []func(r *wire.Reader){
			func(r *wire.Reader) { r.Int() }, func(r *wire.Reader) { r.Flag() }, func(r *wire.Reader) { r.Blob() },
			func(r *wire.Reader) { r.Text() }, func(r *wire.Reader) { r.Count() }, func(r *wire.Reader) { r.Left() },
			(*wire.Reader).Fail, func(r *wire.Reader) { r.End() },
		} {
			r := fresh()
			call(r)
			call(r)
			r.End()
		}
	}
}
