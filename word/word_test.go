package word_test

import (
	"bytes"
	"fmt"
	"math"
	"testing"

	"sluicegate/api"
	"sluicegate/word"
)

// widths are those that there are.
var widths = []int{1, 2, 4, 8}

// noWidths are numbers that are none.
var noWidths = []int{math.MinInt, -8, -1, 0, 3, 5, 6, 7, 9, 16, 64, math.MaxInt}

// edges are numbers at the ends of each width, those beside them, and some whose bytes are all unlike.
func edges() []uint64 {
	l := []uint64{0, 1, 2, 258, 0x0102030405060708, 0xfedcba9876543210, 0x8000000000000000}
	for bits := 8; bits < 64; bits += 8 {
		top := uint64(1) << bits
		l = append(l, top-2, top-1, top, top+1, top>>1)
	}
	return append(l, math.MaxUint64-1, math.MaxUint64)
}

// low is the number with all above that width cut off.
func low(width int, v uint64) uint64 {
	if width == 8 {
		return v
	}
	return v % (uint64(1) << (8 * width))
}

// call is one call of a reader, and what it tells, if it tells anything.
type call struct {
	name string
	do   func(r *word.Reader) any
}

func num(width int) call {
	return call{fmt.Sprintf("Num(%d)", width), func(r *word.Reader) any { return r.Num(width) }}
}

func raw(n int) call {
	return call{fmt.Sprintf("Raw(%d)", n), func(r *word.Reader) any { return string(r.Raw(n)) }}
}

func text(n, most int) call {
	return call{fmt.Sprintf("Text(%d, %d)", n, most), func(r *word.Reader) any { return r.Text(n, most) }}
}

func zeros(n int) call {
	return call{fmt.Sprintf("Zeros(%d)", n), func(r *word.Reader) any { r.Zeros(n); return nil }}
}

// nothing tells whether that is what is told where there is nothing.
func nothing(told any) bool {
	return told == nil || told == any(uint64(0)) || told == any("")
}

// stands holds a reader against how many bytes are left, its error and its end.
func stands(t *testing.T, name string, r *word.Reader, left int, err, end api.Errno) {
	t.Helper()
	if r.Left() != left || r.Err() != err || r.End() != end {
		t.Errorf("%s: Left %d, Err %d, End %d, not %d, %d, %d", name, r.Left(), r.Err(), r.End(), left, err, end)
	}
}

// end is the End of a reader that isn't spoilt.
func end(left int) api.Errno {
	if left > 0 {
		return api.ErrLong
	}
	return api.OK
}

func TestPut(t *testing.T) {
	for _, x := range []struct {
		b     []byte
		width int
		v     uint64
		want  []byte
	}{
		{nil, 2, 258, []byte{1, 2}},
		{nil, 1, 0, []byte{0}},
		{nil, 1, 255, []byte{255}},
		{nil, 1, 256, []byte{0}},
		{nil, 1, 0x1234, []byte{0x34}},
		{nil, 2, 1, []byte{0, 1}},
		{nil, 2, 0x123456, []byte{0x34, 0x56}},
		{nil, 4, 0x01020304, []byte{1, 2, 3, 4}},
		{nil, 4, 0xff01020304, []byte{1, 2, 3, 4}},
		{nil, 4, 0xffffffff80000000, []byte{0x80, 0, 0, 0}},
		{nil, 8, 0x0102030405060708, []byte{1, 2, 3, 4, 5, 6, 7, 8}},
		{nil, 8, math.MaxUint64, bytes.Repeat([]byte{255}, 8)},
		{[]byte{}, 2, 7, []byte{0, 7}},
		{[]byte{9, 0, 200}, 2, 258, []byte{9, 0, 200, 1, 2}},
		{[]byte{0}, 8, 1, []byte{0, 0, 0, 0, 0, 0, 0, 0, 1}},
	} {
		if got := word.Put(x.b, x.width, x.v); !bytes.Equal(got, x.want) {
			t.Errorf("Put(%v, %d, %d) = %v, not %v", x.b, x.width, x.v, got, x.want)
		}
	}
}

func TestPutWithoutSuchAWidth(t *testing.T) {
	for _, width := range noWidths {
		for _, b := range [][]byte{nil, {}, {5}, {1, 2, 3}} {
			if got := word.Put(b, width, 77); !bytes.Equal(got, b) {
				t.Errorf("Put(%v, %d, 77) = %v", b, width, got)
			}
		}
	}
}

func TestPutIsNewMemory(t *testing.T) {
	for _, width := range append([]int{0, 3}, widths...) {
		room := []byte{1, 2, 3, 4, 5, 6, 7, 8, 9, 10, 11, 12}
		was := bytes.Clone(room)
		one := word.Put(room[:3], width, 0x1111111111111111)
		two := word.Put(room[:3], width, 0x2222222222222222)
		if !bytes.Equal(room, was) {
			t.Fatalf("width %d: what was handed in, or its spare room, was changed: %v", width, room)
		}
		kept := bytes.Clone(two)
		for i := range one {
			one[i] = 99
		}
		for i := range room {
			room[i] = 88
		}
		if !bytes.Equal(two, kept) || len(one) > 0 && one[0] != 99 {
			t.Errorf("width %d: what was answered hangs on what was handed in, or on another answer", width)
		}
	}
}

func TestFits(t *testing.T) {
	for _, x := range []struct {
		width int
		v     uint64
		want  bool
	}{
		{1, 0, true}, {1, 255, true}, {1, 256, false}, {1, 1 << 63, false}, {1, 0x1000000000000001, false},
		{2, 256, true}, {2, 65535, true}, {2, 65536, false}, {2, math.MaxUint64, false},
		{4, 65536, true}, {4, 1<<32 - 1, true}, {4, 1 << 32, false}, {4, 1 << 63, false},
		{8, 0, true}, {8, 1 << 32, true}, {8, 1 << 63, true}, {8, math.MaxUint64, true},
	} {
		if got := word.Fits(x.width, x.v); got != x.want {
			t.Errorf("Fits(%d, %d) = %v", x.width, x.v, got)
		}
	}
	for _, width := range noWidths {
		for _, v := range edges() {
			if word.Fits(width, v) {
				t.Errorf("Fits(%d, %d): there is no such width", width, v)
			}
		}
	}
	for _, width := range widths {
		for _, v := range edges() {
			if got := word.Fits(width, v); got != (low(width, v) == v) {
				t.Errorf("Fits(%d, %d) = %v", width, v, got)
			}
		}
	}
}

func TestOpenIsACopy(t *testing.T) {
	b := []byte{1, 2, 3, 0, 5, 6}
	r, other := word.Open(b), word.Open(b)
	for i := range b {
		b[i] = 77
	}
	if got := r.Num(2); got != 258 {
		t.Errorf("Num(2) = %d", got)
	}
	if got := r.Text(1, 2); got != "\x03" {
		t.Errorf("Text(1, 2) = %q", got)
	}
	got := r.Raw(2)
	if !bytes.Equal(got, []byte{5, 6}) {
		t.Errorf("Raw(2) = %v", got)
	}
	if !bytes.Equal(b, bytes.Repeat([]byte{77}, 6)) {
		t.Errorf("what was handed in was changed: %v", b)
	}
	stands(t, "read", r, 0, api.OK, api.OK)
	stands(t, "the other one", other, 6, api.OK, api.ErrLong)
}

func TestOpenOfNothing(t *testing.T) {
	for _, r := range []*word.Reader{word.Open(nil), word.Open([]byte{})} {
		stands(t, "nothing", r, 0, api.OK, api.OK)
		if r.Num(1) != 0 {
			t.Error("a number of nothing")
		}
		stands(t, "Num(1) of nothing", r, 0, api.ErrShort, api.ErrShort)
	}
}

func TestRawIsNewMemory(t *testing.T) {
	r := word.Open([]byte{1, 2, 3, 4, 5})
	one := r.Raw(2)
	one[0], one[1] = 99, 99
	one = append(one, 99, 99, 99)
	two := r.Raw(3)
	if !bytes.Equal(two, []byte{3, 4, 5}) || len(one) != 5 {
		t.Errorf("Raw(3) = %v behind a change of what was told", two)
	}
	if len(r.Raw(0)) != 0 {
		t.Error("Raw(0) has bytes")
	}
	stands(t, "read", r, 0, api.OK, api.OK)
}

// TestCalls goes through single calls of a fresh reader: what is told, what is left, and the error.
func TestCalls(t *testing.T) {
	const big, small = math.MaxInt, math.MinInt
	five := []byte{1, 2, 3, 4, 5}
	for _, x := range []struct {
		b    []byte
		call call
		want any
		left int
		err  api.Errno
	}{
		{five, num(1), uint64(1), 4, api.OK},
		{five, num(2), uint64(258), 3, api.OK},
		{five, num(4), uint64(0x01020304), 1, api.OK},
		{five, num(8), uint64(0), 0, api.ErrShort},
		{five[:4], num(4), uint64(0x01020304), 0, api.OK},
		{five[:3], num(4), uint64(0), 0, api.ErrShort},
		{five[:1], num(2), uint64(0), 0, api.ErrShort},
		{nil, num(1), uint64(0), 0, api.ErrShort},
		{bytes.Repeat([]byte{255}, 8), num(8), uint64(math.MaxUint64), 0, api.OK},
		{bytes.Repeat([]byte{255}, 7), num(8), uint64(0), 0, api.ErrShort},
		{five, num(0), uint64(0), 0, api.ErrArg},
		{five, num(3), uint64(0), 0, api.ErrArg},
		{five, num(5), uint64(0), 0, api.ErrArg},
		{five, num(-1), uint64(0), 0, api.ErrArg},
		{nil, num(3), uint64(0), 0, api.ErrArg},
		{nil, num(16), uint64(0), 0, api.ErrArg},
		{five, num(big), uint64(0), 0, api.ErrArg},
		{five, num(small), uint64(0), 0, api.ErrArg},

		{five, raw(0), "", 5, api.OK},
		{five, raw(1), "\x01", 4, api.OK},
		{five, raw(5), "\x01\x02\x03\x04\x05", 0, api.OK},
		{five, raw(6), "", 0, api.ErrShort},
		{five, raw(big), "", 0, api.ErrShort},
		{five, raw(-1), "", 0, api.ErrArg},
		{five, raw(small), "", 0, api.ErrArg},
		{nil, raw(0), "", 0, api.OK},
		{nil, raw(1), "", 0, api.ErrShort},
		{nil, raw(-1), "", 0, api.ErrArg},

		{[]byte{97, 0, 0}, text(1, 3), "a", 0, api.OK},
		{[]byte{97, 0, 0, 7}, text(1, 3), "a", 1, api.OK},
		{[]byte{97, 0, 98, 0}, text(3, 4), "a\x00b", 0, api.OK},
		{[]byte{97, 0, 0}, text(3, 3), "a\x00\x00", 0, api.OK},
		{[]byte{97, 0, 0}, text(2, 2), "a\x00", 1, api.OK},
		{[]byte{0, 0, 0}, text(0, 3), "", 0, api.OK},
		{[]byte{97, 255}, text(2, 2), "a\xff", 0, api.OK},
		{five, text(5, 5), "\x01\x02\x03\x04\x05", 0, api.OK},
		{five, text(0, 0), "", 5, api.OK},
		{nil, text(0, 0), "", 0, api.OK},
		{[]byte{97, 98, 0}, text(1, 3), "", 0, api.ErrForm},
		{[]byte{97, 0, 98}, text(1, 3), "", 0, api.ErrForm},
		{[]byte{97, 0, 255, 0}, text(1, 3), "", 0, api.ErrForm},
		{[]byte{1}, text(0, 1), "", 0, api.ErrForm},
		{[]byte{0, 0, 1}, text(0, 2), "", 1, api.OK},
		{[]byte{97, 0}, text(1, 3), "", 0, api.ErrShort},
		{[]byte{97, 98}, text(1, 3), "", 0, api.ErrShort},
		{[]byte{97}, text(0, 2), "", 0, api.ErrShort},
		{nil, text(0, 1), "", 0, api.ErrShort},
		{five, text(0, big), "", 0, api.ErrShort},
		{five, text(big, big), "", 0, api.ErrShort},
		{five, text(-1, 3), "", 0, api.ErrArg},
		{five, text(4, 3), "", 0, api.ErrArg},
		{five, text(0, -1), "", 0, api.ErrArg},
		{five, text(-1, -1), "", 0, api.ErrArg},
		{five, text(-2, -1), "", 0, api.ErrArg},
		{five, text(big, 3), "", 0, api.ErrArg},
		{five, text(small, big), "", 0, api.ErrArg},
		{five, text(big, small), "", 0, api.ErrArg},
		{nil, text(-1, 1), "", 0, api.ErrArg},
		{nil, text(2, 1), "", 0, api.ErrArg},

		{[]byte{0, 0, 0}, zeros(3), nil, 0, api.OK},
		{[]byte{0, 0, 1}, zeros(2), nil, 1, api.OK},
		{five, zeros(0), nil, 5, api.OK},
		{nil, zeros(0), nil, 0, api.OK},
		{[]byte{1, 0, 0}, zeros(3), nil, 0, api.ErrForm},
		{[]byte{0, 0, 255}, zeros(3), nil, 0, api.ErrForm},
		{[]byte{0, 1, 0, 0}, zeros(2), nil, 0, api.ErrForm},
		{[]byte{0, 0}, zeros(3), nil, 0, api.ErrShort},
		{five, zeros(6), nil, 0, api.ErrShort},
		{five, zeros(big), nil, 0, api.ErrShort},
		{nil, zeros(1), nil, 0, api.ErrShort},
		{five, zeros(-1), nil, 0, api.ErrArg},
		{five, zeros(small), nil, 0, api.ErrArg},
		{nil, zeros(-1), nil, 0, api.ErrArg},
	} {
		r := word.Open(x.b)
		name := fmt.Sprintf("%s of %v", x.call.name, x.b)
		if got := x.call.do(r); got != x.want {
			t.Errorf("%s = %#v, not %#v", name, got, x.want)
		}
		if x.err == api.OK {
			stands(t, name, r, x.left, api.OK, end(x.left))
		} else {
			stands(t, name, r, 0, x.err, x.err)
		}
	}
}

// everyCall is good ones and such as spoil, each in its ways.
func everyCall() []call {
	return []call{
		num(1), num(2), num(4), num(8), num(0), num(3), num(-1), raw(0), raw(1), raw(2), raw(9), raw(-1),
		text(0, 0), text(1, 1), text(0, 1), text(1, 2), text(2, 9), text(-1, 1), text(2, 1), text(0, -1),
		zeros(0), zeros(1), zeros(9), zeros(-1),
	}
}

func TestTheFirstErrorStays(t *testing.T) {
	for _, x := range []struct {
		spoiler call
		err     api.Errno
	}{
		{num(3), api.ErrArg}, {raw(-1), api.ErrArg}, {text(2, 1), api.ErrArg}, {zeros(-1), api.ErrArg},
		{num(8), api.ErrShort}, {raw(5), api.ErrShort}, {text(1, 5), api.ErrShort}, {zeros(5), api.ErrShort},
		{text(1, 3), api.ErrForm}, {zeros(3), api.ErrForm},
	} {
		r := word.Open([]byte{0, 0, 1, 0})
		if told := x.spoiler.do(r); !nothing(told) {
			t.Errorf("%s tells %#v", x.spoiler.name, told)
		}
		stands(t, x.spoiler.name, r, 0, x.err, x.err)
		for _, c := range everyCall() {
			if told := c.do(r); !nothing(told) {
				t.Errorf("%s behind %s tells %#v", c.name, x.spoiler.name, told)
			}
			stands(t, c.name+" behind "+x.spoiler.name, r, 0, x.err, x.err)
		}
	}
}

func TestEndSpoilsNothing(t *testing.T) {
	r := word.Open([]byte{1, 2, 3})
	for left := 3; left > 0; left-- {
		stands(t, "not at the end", r, left, api.OK, api.ErrLong)
		if got := r.Num(1); got != uint64(4-left) {
			t.Errorf("Num(1) = %d with %d left", got, left)
		}
	}
	stands(t, "at the end", r, 0, api.OK, api.OK)
	if got := r.Raw(1); len(got) != 0 {
		t.Errorf("Raw(1) past the end = %v", got)
	}
	stands(t, "past the end", r, 0, api.ErrShort, api.ErrShort)
}

func TestNilReader(t *testing.T) {
	var r *word.Reader
	stands(t, "nil", r, 0, api.ErrNil, api.ErrNil)
	for _, c := range everyCall() {
		if told := c.do(r); !nothing(told) {
			t.Errorf("%s of nil tells %#v", c.name, told)
		}
		stands(t, c.name+" of nil", r, 0, api.ErrNil, api.ErrNil)
	}
}

func TestZeroReaderHasNoBytes(t *testing.T) {
	for _, c := range everyCall() {
		var zero word.Reader
		stands(t, "zero", &zero, 0, api.OK, api.OK)
		none := word.Open(nil)
		if told := c.do(&zero); !nothing(told) || told != c.do(none) {
			t.Errorf("%s of a zero reader tells %#v", c.name, told)
		}
		stands(t, c.name+" of a zero reader", &zero, 0, none.Err(), none.End())
	}
}

// TestThereAndBack puts each number in each width, one behind the other, and reads them all.
func TestThereAndBack(t *testing.T) {
	var b []byte
	size := 0
	for _, v := range edges() {
		for _, width := range widths {
			b = word.Put(b, width, v)
			if size += width; len(b) != size {
				t.Fatalf("%d bytes, not %d", len(b), size)
			}
		}
	}
	r := word.Open(b)
	for _, v := range edges() {
		for _, width := range widths {
			got := r.Num(width)
			if got != low(width, v) || word.Fits(width, v) != (got == v) {
				t.Errorf("%d put in width %d is read as %d", v, width, got)
			}
			if size -= width; r.Left() != size {
				t.Fatalf("%d bytes are left, not %d", r.Left(), size)
			}
		}
	}
	stands(t, "all read", r, 0, api.OK, api.OK)
}

func TestThereAndBackOfAllShortNumbers(t *testing.T) {
	for v := range uint64(1 << 16) {
		b := word.Put(nil, 2, v)
		if want := []byte{byte(v >> 8), byte(v)}; !bytes.Equal(b, want) {
			t.Fatalf("Put(nothing, 2, %d) = %v", v, b)
		}
		if got := word.Open(b).Num(2); got != v {
			t.Fatalf("%d is read as %d", v, got)
		}
	}
}

func TestMixedBytesThereAndBack(t *testing.T) {
	b := word.Put([]byte("head"), 2, 3)
	b = append(b, "ab\xff\x00\x00"...)
	b = word.Put(b, 8, 1<<40)
	b = append(b, 0, 0, 0)
	r := word.Open(b)
	if got := string(r.Raw(4)); got != "head" {
		t.Errorf("Raw(4) = %q", got)
	}
	if got := r.Text(int(r.Num(2)), 5); got != "ab\xff" {
		t.Errorf("Text = %q", got)
	}
	if got := r.Num(8); got != 1<<40 {
		t.Errorf("Num(8) = %d", got)
	}
	stands(t, "ahead of the end", r, 3, api.OK, api.ErrLong)
	r.Zeros(3)
	stands(t, "at the end", r, 0, api.OK, api.OK)
}

func TestBytesStandAsTheNumbersDo(t *testing.T) {
	for _, width := range widths {
		for _, x := range edges() {
			for _, y := range edges() {
				x, y := low(width, x), low(width, y)
				got := bytes.Compare(word.Put(nil, width, x), word.Put(nil, width, y))
				if got < 0 != (x < y) || got > 0 != (x > y) {
					t.Fatalf("width %d: the bytes of %d and %d stand %d", width, x, y, got)
				}
			}
		}
	}
}
