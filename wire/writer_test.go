package wire_test

import (
	"bytes"
	"math"
	"strings"
	"testing"

	"coupon/api"
	"coupon/wire"
)

// wantPut: the writer goes on, and has put just these bytes.
func wantPut(t *testing.T, what string, w *wire.Writer, want []byte) {
	t.Helper()
	if w.Len() != len(want) {
		t.Errorf("%s: Len is %d, not %d", what, w.Len(), len(want))
	}
	if b, e := w.End(); e != api.OK || !bytes.Equal(b, want) {
		t.Errorf("%s: End is % x, %d, not % x", what, b, e, want)
	}
}

// wantFailed: the writer failed, and has nothing to tell.
func wantFailed(t *testing.T, what string, w *wire.Writer) {
	t.Helper()
	if b, e := w.End(); e != api.ErrArg || len(b) > 0 || w.Len() != 0 {
		t.Errorf("%s: End is %d bytes, %d, Len %d; it should have failed", what, len(b), e, w.Len())
	}
}

// P1.1: a number stands with its highest byte first.
func TestWriterNumber(t *testing.T) {
	for _, x := range []struct {
		n    uint64
		size int
		want []byte
	}{
		{0, 1, []byte{0}},
		{1, 1, []byte{1}},
		{255, 1, []byte{255}},
		{0, 2, []byte{0, 0}},
		{258, 2, []byte{1, 2}},
		{65535, 2, []byte{255, 255}},
		{258, 4, []byte{0, 0, 1, 2}},
		{0x01020304, 4, []byte{1, 2, 3, 4}},
		{1<<32 - 1, 4, []byte{255, 255, 255, 255}},
		{7, 8, []byte{0, 0, 0, 0, 0, 0, 0, 7}},
		{0x0102030405060708, 8, []byte{1, 2, 3, 4, 5, 6, 7, 8}},
		{math.MaxUint64, 8, []byte{255, 255, 255, 255, 255, 255, 255, 255}},
	} {
		wantPut(t, "Number", new(wire.Writer).Number(x.n, x.size), x.want)
	}
}

// P1.1: Number fails of a size that may not be, of a number without room.
func TestWriterNumberFails(t *testing.T) {
	for _, size := range []int{math.MinInt, -8, -4, -2, -1, 0, 3, 5, 6, 7, 9, 16, 32, 64, 1<<32 + 1, math.MaxInt} {
		wantFailed(t, "a size that may not be", new(wire.Writer).Number(0, size))
		wantFailed(t, "a size that may not be", new(wire.Writer).Number(1, size))
	}
	for _, x := range []struct {
		n    uint64
		size int
	}{
		{256, 1}, {257, 1}, {1 << 16, 1}, {1 << 63, 1}, {math.MaxUint64, 1},
		{65536, 2}, {1 << 32, 2}, {math.MaxUint64, 2},
		{1 << 32, 4}, {1<<32 + 1, 4}, {1 << 63, 4}, {math.MaxUint64, 4},
	} {
		wantFailed(t, "a number without room", new(wire.Writer).Number(x.n, x.size))
	}
}

// P1.1: a whole number below 0 stands as 2^64 more.
func TestWriterInt(t *testing.T) {
	for _, x := range []struct {
		n    int64
		want []byte
	}{
		{0, []byte{0, 0, 0, 0, 0, 0, 0, 0}},
		{258, []byte{0, 0, 0, 0, 0, 0, 1, 2}},
		{-1, []byte{255, 255, 255, 255, 255, 255, 255, 255}},
		{-258, []byte{255, 255, 255, 255, 255, 255, 254, 254}},
		{math.MaxInt64, []byte{127, 255, 255, 255, 255, 255, 255, 255}},
		{math.MinInt64, []byte{128, 0, 0, 0, 0, 0, 0, 0}},
	} {
		wantPut(t, "Int", new(wire.Writer).Int(x.n), x.want)
	}
}

// P1.1: Flag, Bytes, Blob, Text.
func TestWriterPuts(t *testing.T) {
	wantPut(t, "Flag", new(wire.Writer).Flag(true).Flag(false).Flag(true), []byte{1, 0, 1})
	wantPut(t, "Bytes", new(wire.Writer).Bytes([]byte{3, 0, 255}).Bytes(nil).Bytes([]byte{}).Bytes([]byte{9}), []byte{3, 0, 255, 9})
	wantPut(t, "Blob", new(wire.Writer).Blob([]byte{7}).Blob(nil).Blob([]byte{}), []byte{0, 0, 0, 1, 7, 0, 0, 0, 0, 0, 0, 0, 0})
	wantPut(t, "Text", new(wire.Writer).Text("\u00e9\xff").Text(""), []byte{0, 0, 0, 3, 0xc3, 0xa9, 0xff, 0, 0, 0, 0})
	wantPut(t, "the chapter's example", new(wire.Writer).Number(258, 4).Int(-1).Blob([]byte{7}), []byte{0, 0, 1, 2, 255, 255, 255, 255, 255, 255, 255, 255, 0, 0, 0, 1, 7})
	long := bytes.Repeat([]byte{5}, 300)
	wantPut(t, "a blob of 300 bytes", new(wire.Writer).Blob(long), append([]byte{0, 0, 1, 44}, long...))
	wantPut(t, "a text of 300 bytes", new(wire.Writer).Text(string(long)), append([]byte{0, 0, 1, 44}, long...))
}

// P1.1: blobs and texts have at most MaxBlob bytes; Bytes may have more.
func TestWriterMaxBlob(t *testing.T) {
	most := bytes.Repeat([]byte{6}, api.MaxBlob)
	want := append([]byte{1, 0, 0, 0}, most...)
	wantPut(t, "a blob of MaxBlob", new(wire.Writer).Blob(most), want)
	wantPut(t, "a text of MaxBlob", new(wire.Writer).Text(string(most)), want)
	more := append(most, 6)
	wantFailed(t, "a blob above MaxBlob", new(wire.Writer).Blob(more))
	wantFailed(t, "a text above MaxBlob", new(wire.Writer).Text(string(more)))
	wantPut(t, "bytes above MaxBlob", new(wire.Writer).Bytes(more), more)
}

// P1.1: a count is a number of 2 bytes.
func TestWriterCount(t *testing.T) {
	wantPut(t, "Count", new(wire.Writer).Count(0).Count(1).Count(256).Count(65535), []byte{0, 0, 0, 1, 1, 0, 255, 255})
	for _, n := range []int{-1, -2, -65535, -65536, math.MinInt, 65536, 65537, 1 << 20, 1 << 32, math.MaxInt} {
		wantFailed(t, "a count that may not be", new(wire.Writer).Count(n))
	}
}

// puts has each way to put, of what may be.
func puts() map[string]func(w *wire.Writer) *wire.Writer {
	return map[string]func(w *wire.Writer) *wire.Writer{
		"Number": func(w *wire.Writer) *wire.Writer { return w.Number(5, 4) },
		"Int":    func(w *wire.Writer) *wire.Writer { return w.Int(5) },
		"Flag":   func(w *wire.Writer) *wire.Writer { return w.Flag(true) },
		"Bytes":  func(w *wire.Writer) *wire.Writer { return w.Bytes([]byte{5}) },
		"Blob":   func(w *wire.Writer) *wire.Writer { return w.Blob([]byte{5}) },
		"Text":   func(w *wire.Writer) *wire.Writer { return w.Text("5") },
		"Count":  func(w *wire.Writer) *wire.Writer { return w.Count(5) },
	}
}

// unfit has each way to put what may not be.
func unfit() map[string]func(w *wire.Writer) *wire.Writer {
	long := strings.Repeat("x", api.MaxBlob+1)
	return map[string]func(w *wire.Writer) *wire.Writer{
		"a size":      func(w *wire.Writer) *wire.Writer { return w.Number(5, 3) },
		"a number":    func(w *wire.Writer) *wire.Writer { return w.Number(256, 1) },
		"a long blob": func(w *wire.Writer) *wire.Writer { return w.Blob([]byte(long)) },
		"a long text": func(w *wire.Writer) *wire.Writer { return w.Text(long) },
		"a count":     func(w *wire.Writer) *wire.Writer { return w.Count(-1) },
	}
}

// P1.1: each put answers the very writer, whether it puts, or fails.
func TestWriterAnswersItself(t *testing.T) {
	for _, l := range []map[string]func(w *wire.Writer) *wire.Writer{puts(), unfit()} {
		for what, put := range l {
			w := new(wire.Writer)
			if put(w) != w {
				t.Errorf("%s answers another writer", what)
			}
			if put(w) != w {
				t.Errorf("%s, again, answers another writer", what)
			}
			if put(nil) != nil {
				t.Errorf("%s of nil answers a writer", what)
			}
		}
	}
}

// P1.1: a writer that failed puts nothing more, and what it had put is gone.
func TestWriterStaysFailed(t *testing.T) {
	for how, fail := range unfit() {
		w := new(wire.Writer).Text("ahead")
		wantFailed(t, how, fail(w))
		for what, put := range puts() {
			wantFailed(t, how+", then "+what, put(w))
		}
	}
}

// P1.1: a zero writer has put nothing, and is not as a nil one; of nil all is nothing, and ErrNil.
func TestWriterZeroAndNil(t *testing.T) {
	wantPut(t, "a zero writer", new(wire.Writer), nil)
	var zero wire.Writer
	zero.Flag(true)
	wantPut(t, "a zero value", &zero, []byte{1})
	var none *wire.Writer
	none.Number(5, 3).Text("x")
	if b, e := none.End(); e != api.ErrNil || len(b) > 0 || none.Len() != 0 {
		t.Errorf("End of nil is % x, %d, Len %d", b, e, none.Len())
	}
}

// P1.1: a writer stays at its End, and goes on.
func TestWriterGoesOnBehindEnd(t *testing.T) {
	w := new(wire.Writer).Count(1)
	wantPut(t, "first", w, []byte{0, 1})
	wantPut(t, "again", w, []byte{0, 1})
	wantPut(t, "more", w.Flag(true), []byte{0, 1, 1})
	wantFailed(t, "failed", w.Count(-1))
	wantFailed(t, "still failed", w)
}

// P1.1: what is handed in is neither kept nor changed; what is answered is new memory.
func TestWriterSharesNothing(t *testing.T) {
	given := make([]byte, 3, 20)
	copy(given, "abc")
	w := new(wire.Writer).Bytes(given)
	given[0] = 'x'
	w.Bytes([]byte("def"))
	if rest := given[:6]; string(rest) != "xbc\x00\x00\x00" {
		t.Errorf("what was handed in is %q", rest)
	}
	first, _ := w.End()
	second, _ := w.End()
	first[1] = 'y'
	_ = append(first[:6], 'z')
	w.Bytes([]byte("g"))
	if string(second) != "abcdef" {
		t.Errorf("another answer is %q", second)
	}
	wantPut(t, "behind a change of an answer", w, []byte("abcdefg"))
	blob := []byte("hij")
	b := new(wire.Writer).Blob(blob)
	blob[0] = 'x'
	wantPut(t, "behind a change of a blob", b, []byte("\x00\x00\x00\x03hij"))
}
