package dev_test

import (
	"bytes"
	"math"
	"math/rand"
	"slices"
	"testing"

	"sluicegate/api"
	"sluicegate/dev"
)

// made is a device of noughts.
func made(t *testing.T, blocks, size int) *dev.Device {
	t.Helper()
	d, err := dev.New(blocks, size)
	if err != api.OK || d == nil {
		t.Fatalf("New(%d, %d) = %v, %d", blocks, size, d, err)
	}
	return d
}

// from is a device of an image.
func from(t *testing.T, size int, image []byte) *dev.Device {
	t.Helper()
	d, err := dev.From(size, image)
	if err != api.OK || d == nil {
		t.Fatalf("From(%d) of %d bytes = %v, %d", size, len(image), d, err)
	}
	return d
}

// filled are n bytes, none of them 0, neighbours unlike.
func filled(n, seed int) []byte {
	b := make([]byte, n)
	for i := range b {
		b[i] = byte(1 + (i*7+i/251+seed*31)%255)
	}
	return b
}

// shadow is what a device must have, as the document words it.
type shadow struct {
	image  []byte
	blocks int
	size   int
	stats  api.Stats
}

// noughts is what a device of noughts must have.
func noughts(blocks, size int) *shadow {
	return &shadow{image: make([]byte, blocks*size), blocks: blocks, size: size}
}

// block is a block's bytes.
func (s *shadow) block(i int) []byte {
	return s.image[i*s.size : (i+1)*s.size]
}

// same holds all that a device tells without counting against what it must have.
func same(t *testing.T, d *dev.Device, s *shadow, what string) {
	t.Helper()
	if d.Blocks() != s.blocks || d.Bytes() != s.size {
		t.Fatalf("%s: %d blocks of %d bytes, not %d of %d", what, d.Blocks(), d.Bytes(), s.blocks, s.size)
	}
	if d.Stats() != s.stats {
		t.Fatalf("%s: Stats %v, not %v", what, d.Stats(), s.stats)
	}
	if !bytes.Equal(d.Image(), s.image) {
		t.Fatalf("%s: the Image of %d blocks of %d bytes is another one", what, s.blocks, s.size)
	}
	if d.Stats() != s.stats {
		t.Fatalf("%s: Stats %v behind an Image, not %v", what, d.Stats(), s.stats)
	}
}

// read reads a block and holds it against what it must be.
func read(t *testing.T, d *dev.Device, s *shadow, i int, what string) []byte {
	t.Helper()
	b, err := d.Read(uint32(i))
	s.stats.Reads++
	if err != api.OK || !bytes.Equal(b, s.block(i)) {
		t.Fatalf("%s: Read(%d) = %v, %d, not %v", what, i, b, err, s.block(i))
	}
	if d.Stats() != s.stats {
		t.Fatalf("%s: Stats %v behind a Read, not %v", what, d.Stats(), s.stats)
	}
	return b
}

// write writes a block.
func write(t *testing.T, d *dev.Device, s *shadow, i int, b []byte, what string) {
	t.Helper()
	if err := d.Write(uint32(i), b); err != api.OK {
		t.Fatalf("%s: Write(%d) of %d bytes = %d", what, i, len(b), err)
	}
	copy(s.block(i), b)
	s.stats.Writes++
	if d.Stats() != s.stats {
		t.Fatalf("%s: Stats %v behind a Write, not %v", what, d.Stats(), s.stats)
	}
}

// absent are numbers of blocks that a device of n blocks doesn't have.
func absent(n int) []uint32 {
	l := []uint32{uint32(n), uint32(n + 1), uint32(2 * n), api.MaxBlocks, api.MaxBlocks + 1, 1<<31 - 1, 1 << 31, 1<<31 + 1, math.MaxUint32 - 1, math.MaxUint32}
	return slices.DeleteFunc(l, func(i uint32) bool { return i < uint32(n) })
}

// outside are numbers that are neither a count of blocks nor of bytes.
var outside = []int{math.MinInt, math.MinInt + 1, math.MinInt32, -65536, -5, -1, 0, 65537, 65538, 1 << 17, math.MaxInt32, 1 << 32, math.MaxInt - 1, math.MaxInt}

func TestLimits(t *testing.T) {
	if api.MinBlocks != 5 || api.MaxBlocks != 65536 || api.MaxBytes != 65536 {
		t.Error("the limits are other ones than the document's")
	}
}

func TestNew(t *testing.T) {
	for _, n := range outside {
		for _, other := range append([]int{1, 5, 100, 65536}, outside...) {
			if d, err := dev.New(n, other); d != nil || err != api.ErrArg {
				t.Errorf("New(%d, %d) = %v, %d", n, other, d, err)
			}
			if d, err := dev.New(other, n); d != nil || err != api.ErrArg {
				t.Errorf("New(%d, %d) = %v, %d", other, n, d, err)
			}
		}
	}
	for blocks := 1; blocks <= 4; blocks++ {
		for _, size := range []int{1, 2, 5, 512, 65536} {
			if d, err := dev.New(blocks, size); d != nil || err != api.ErrArg {
				t.Errorf("New(%d, %d) = %v, %d", blocks, size, d, err)
			}
		}
	}
	for _, x := range [][2]int{{5, 1}, {5, 4}, {6, 1}, {7, 3}, {64, 173}, {5, 65535}, {5, 65536}, {65535, 1}, {65536, 1}, {65536, 16}, {300, 4096}} {
		d, s := made(t, x[0], x[1]), noughts(x[0], x[1])
		same(t, d, s, "a new device")
		read(t, d, s, 0, "a new device")
		read(t, d, s, x[0]-1, "a new device")
	}
}

// TestGreatest: the greatest device is made, and its first and last blocks are blocks as others are.
func TestGreatest(t *testing.T) {
	d := made(t, api.MaxBlocks, api.MaxBytes)
	if d.Blocks() != 65536 || d.Bytes() != 65536 || d.Stats() != (api.Stats{}) {
		t.Errorf("%d blocks of %d bytes, Stats %v", d.Blocks(), d.Bytes(), d.Stats())
	}
	for at, i := range []uint32{0, 1, 32767, 65534, 65535} {
		if b, err := d.Read(i); err != api.OK || !bytes.Equal(b, make([]byte, 65536)) {
			t.Errorf("Read(%d) of a new device: %d bytes, %d", i, len(b), err)
		}
		if err := d.Write(i, filled(65536, at)); err != api.OK {
			t.Errorf("Write(%d) = %d", i, err)
		}
	}
	for at, i := range []uint32{0, 1, 32767, 65534, 65535} {
		if b, err := d.Read(i); err != api.OK || !bytes.Equal(b, filled(65536, at)) {
			t.Errorf("Read(%d): %d bytes, %d", i, len(b), err)
		}
	}
	if _, err := d.Read(65536); err != api.ErrRange {
		t.Errorf("Read(65536) = %d", err)
	}
	if want := (api.Stats{Reads: 10, Writes: 5}); d.Stats() != want {
		t.Errorf("Stats %v, not %v", d.Stats(), want)
	}
}

func TestFromWrong(t *testing.T) {
	for _, size := range outside {
		for _, n := range []int{0, 1, 5, 10, 1 << 10} {
			if d, err := dev.From(size, filled(n, 0)); d != nil || err != api.ErrArg {
				t.Errorf("From(%d) of %d bytes = %v, %d", size, n, d, err)
			}
		}
	}
	// 65537 divides the first, but is itself too great.
	if d, err := dev.From(65537, make([]byte, 5*65537)); d != nil || err != api.ErrArg {
		t.Errorf("From(65537) of 5 blocks = %v, %d", d, err)
	}
	for size := 1; size <= 9; size++ {
		for n := range 80 {
			d, err := dev.From(size, filled(n, size))
			if n%size != 0 || n/size < 5 {
				if d != nil || err != api.ErrArg {
					t.Errorf("From(%d) of %d bytes = %v, %d", size, n, d, err)
				}
				continue
			}
			if err != api.OK || d == nil {
				t.Fatalf("From(%d) of %d bytes = %v, %d", size, n, d, err)
			}
			same(t, d, &shadow{image: filled(n, size), blocks: n / size, size: size}, "From")
		}
	}
	for _, size := range []int{1, 2, 3, 16, 65535, 65536} {
		if d, err := dev.From(size, nil); d != nil || err != api.ErrArg {
			t.Errorf("From(%d) of nil = %v, %d", size, d, err)
		}
		if d, err := dev.From(size, make([]byte, 4*size)); d != nil || err != api.ErrArg {
			t.Errorf("From(%d) of 4 blocks = %v, %d", size, d, err)
		}
		for _, n := range []int{5*size - 1, 5*size + 1, 6*size - 1} {
			if size > 1 {
				if d, err := dev.From(size, make([]byte, n)); d != nil || err != api.ErrArg {
					t.Errorf("From(%d) of %d bytes = %v, %d", size, n, d, err)
				}
			}
		}
	}
	for _, size := range []int{1, 2, 3, 16} {
		for _, n := range []int{65537 * size, 65538 * size, 65536*size + 1} {
			if d, err := dev.From(size, make([]byte, n)); d != nil || err != api.ErrArg {
				t.Errorf("From(%d) of %d bytes = %v, %d", size, n, d, err)
			}
		}
	}
}

func TestFrom(t *testing.T) {
	for _, x := range [][2]int{{5, 1}, {6, 1}, {5, 4}, {9, 7}, {64, 173}, {5, 65535}, {5, 65536}, {65535, 1}, {65536, 1}, {65536, 3}} {
		blocks, size := x[0], x[1]
		image := filled(blocks*size, 3)
		d, s := from(t, size, image), &shadow{image: slices.Clone(image), blocks: blocks, size: size}
		same(t, d, s, "From")
		for _, i := range []int{0, 1, blocks / 2, blocks - 2, blocks - 1} {
			read(t, d, s, i, "From")
		}
		write(t, d, s, blocks-1, filled(size, 8), "From")
		write(t, d, s, 0, make([]byte, size), "From")
		for _, i := range []int{0, 1, blocks / 2, blocks - 2, blocks - 1} {
			read(t, d, s, i, "From, written")
		}
		same(t, d, s, "From, written")
	}
}

func TestExamples(t *testing.T) {
	d, s := made(t, 5, 4), noughts(5, 4)
	write(t, d, s, 1, []byte{1, 2, 3, 4}, "the example")
	if b, err := d.Read(1); err != api.OK || !bytes.Equal(b, []byte{1, 2, 3, 4}) {
		t.Errorf("Read(1) = %v, %d", b, err)
	}
	if want := (api.Stats{Reads: 1, Writes: 1}); d.Stats() != want {
		t.Errorf("Stats %v, not %v", d.Stats(), want)
	}
	if want := []byte{0, 0, 0, 0, 1, 2, 3, 4, 0, 0, 0, 0, 0, 0, 0, 0, 0, 0, 0, 0}; !bytes.Equal(d.Image(), want) {
		t.Errorf("Image %v, not %v", d.Image(), want)
	}
}

// TestWrongCalls: an error tells nothing, changes nothing and isn't counted; no such block is told ahead of a wrong length.
func TestWrongCalls(t *testing.T) {
	for _, x := range [][2]int{{5, 1}, {5, 4}, {6, 7}, {8, 16}, {100, 3}, {65535, 1}, {65536, 1}} {
		blocks, size := x[0], x[1]
		image := filled(blocks*size, 2)
		d, s := from(t, size, image), &shadow{image: image, blocks: blocks, size: size}
		read(t, d, s, 1, "ahead of wrong calls")
		write(t, d, s, 2, filled(size, 9), "ahead of wrong calls")
		lengths := []int{0, size - 1, size + 1, 2 * size, blocks * size, 65536, 65537}
		for _, i := range absent(blocks) {
			if b, err := d.Read(i); len(b) != 0 || err != api.ErrRange {
				t.Errorf("Read(%d) of %d blocks = %v, %d", i, blocks, b, err)
			}
			for _, n := range append(lengths, size) {
				if err := d.Write(i, filled(n, 1)); err != api.ErrRange {
					t.Errorf("Write(%d) of %d bytes of %d blocks = %d", i, n, blocks, err)
				}
			}
		}
		for _, i := range []int{0, 1, 2, blocks - 1} {
			for _, n := range lengths {
				if n == size {
					continue
				}
				if err := d.Write(uint32(i), filled(n, 1)); err != api.ErrForm {
					t.Errorf("Write(%d) of %d bytes into blocks of %d = %d", i, n, size, err)
				}
			}
			if err := d.Write(uint32(i), nil); err != api.ErrForm {
				t.Errorf("Write(%d) of nil = %d", i, err)
			}
			// Room behind the bytes is none of them.
			if err := d.Write(uint32(i), filled(size+1, 1)[:size-1]); err != api.ErrForm {
				t.Errorf("Write(%d) of bytes with spare room = %d", i, err)
			}
		}
		same(t, d, s, "behind wrong calls")
	}
}

// TestEachBlock writes each single block, and reads all of them: no other one is touched.
func TestEachBlock(t *testing.T) {
	for blocks := 5; blocks <= 9; blocks++ {
		for size := 1; size <= 6; size++ {
			for i := range blocks {
				for _, full := range []bool{false, true} {
					d, s := made(t, blocks, size), noughts(blocks, size)
					if full {
						s.image = filled(blocks*size, i)
						d = from(t, size, s.image)
						s.image = slices.Clone(s.image)
					}
					write(t, d, s, i, filled(size, i+100), "a block")
					for at := range blocks {
						read(t, d, s, at, "a block was written")
					}
					same(t, d, s, "a block was written")
					write(t, d, s, i, make([]byte, size), "a block of noughts")
					for at := range blocks {
						read(t, d, s, at, "a block of noughts was written")
					}
					same(t, d, s, "a block of noughts was written")
				}
			}
		}
	}
}

func TestManyCalls(t *testing.T) {
	for _, x := range [][2]int{{5, 1}, {5, 8}, {17, 3}, {64, 33}, {200, 2}} {
		blocks, size := x[0], x[1]
		chance := rand.New(rand.NewSource(int64(blocks)))
		d, s := made(t, blocks, size), noughts(blocks, size)
		for step := range 3000 {
			i := chance.Intn(blocks + 2)
			n := size
			if chance.Intn(8) == 0 {
				n = chance.Intn(2*size + 2)
			}
			b := make([]byte, n)
			chance.Read(b)
			switch {
			case chance.Intn(2) == 0 && i < blocks:
				read(t, d, s, i, "many calls")
			case i >= blocks:
				if err := d.Write(uint32(i), b); err != api.ErrRange {
					t.Fatalf("Write(%d) of %d blocks = %d", i, blocks, err)
				}
			case n != size:
				if err := d.Write(uint32(i), b); err != api.ErrForm {
					t.Fatalf("Write of %d bytes into blocks of %d = %d", n, size, err)
				}
			default:
				write(t, d, s, i, b, "many calls")
			}
			if step%50 == 0 {
				same(t, d, s, "many calls")
			}
		}
		same(t, d, s, "many calls")
		// A device From the image reads as the one whose image it is, with counts of its own.
		again, fresh := from(t, size, d.Image()), &shadow{image: s.image, blocks: blocks, size: size}
		for i := range blocks {
			read(t, again, fresh, i, "From an image")
			read(t, d, s, i, "a device whose image was taken")
		}
		same(t, again, fresh, "From an image")
		same(t, d, s, "a device whose image was taken")
	}
}

// TestStats: each read and each write counts, the same block over and over, too, and bytes that change nothing.
func TestStats(t *testing.T) {
	d, s := made(t, 5, 2), noughts(5, 2)
	for round := range 300 {
		write(t, d, s, 3, []byte{7, byte(round / 100)}, "over and over")
		if round%2 == 0 {
			read(t, d, s, 3, "over and over")
		}
	}
	if want := (api.Stats{Reads: 150, Writes: 300}); d.Stats() != want {
		t.Errorf("Stats %v, not %v", d.Stats(), want)
	}
	for range 10 {
		d.Image()
		d.Blocks()
		d.Bytes()
	}
	same(t, d, s, "over and over")
	told := d.Stats()
	told.Reads, told.Writes = 0, 0
	same(t, d, s, "over and over, counts told and changed")
}

// TestNothingKept: what was handed in may be changed, its spare room, too, and the device has what it had.
func TestNothingKept(t *testing.T) {
	room := filled(40, 1)
	kept := slices.Clone(room)
	image := room[:20]
	d, s := from(t, 4, image), &shadow{image: slices.Clone(image), blocks: 5, size: 4}
	write(t, d, s, 4, []byte{9, 9, 9, 9}, "From")
	write(t, d, s, 0, []byte{8, 8, 8, 8}, "From")
	if !bytes.Equal(room, kept) {
		t.Errorf("the image handed in, or its spare room, became %v", room)
	}
	clear(room)
	same(t, d, s, "the image handed in was changed")

	b := filled(12, 5)
	kept = slices.Clone(b)
	for _, i := range []int{1, 2} {
		write(t, d, s, i, b[4:8], "a part of bytes")
	}
	write(t, d, s, 1, []byte{1, 2, 3, 4}, "one of two that were written with the same bytes")
	if !bytes.Equal(b, kept) {
		t.Errorf("bytes that were written became %v", b)
	}
	clear(b)
	same(t, d, s, "bytes that were written were changed")
	for i := range 5 {
		read(t, d, s, i, "bytes that were written were changed")
	}

	fresh, f := made(t, 5, 4), noughts(5, 4)
	b = filled(4, 6)
	write(t, fresh, f, 2, b, "a new device")
	clear(b)
	same(t, fresh, f, "bytes that were written into a new device were changed")
}

// TestToldIsTheAskers: what was told may be changed, and stays as it was told.
func TestToldIsTheAskers(t *testing.T) {
	for _, d := range []*dev.Device{made(t, 5, 3), from(t, 3, filled(15, 4))} {
		s := noughts(5, 3)
		copy(s.image, d.Image())
		one, other := read(t, d, s, 2, "a block"), read(t, d, s, 2, "a block")
		was := slices.Clone(one)
		write(t, d, s, 2, []byte{1, 2, 3}, "a block that was told")
		if !bytes.Equal(one, was) {
			t.Errorf("a block that was told became %v", one)
		}
		for i := range one {
			one[i] = 77
		}
		_ = append(one, 78)
		if !bytes.Equal(other, was) {
			t.Errorf("a block that was told became %v when another was changed", other)
		}
		written := read(t, d, s, 2, "a block that was told")
		clear(written)
		_ = append(written, 79, 80, 81)
		same(t, d, s, "blocks that were told were changed")
		for i := range 5 {
			read(t, d, s, i, "blocks that were told were changed")
		}

		image, second := d.Image(), d.Image()
		write(t, d, s, 4, []byte{4, 5, 6}, "a device whose image was told")
		if !bytes.Equal(image, second) {
			t.Error("an image that was told became another one")
		}
		clear(image)
		_ = append(image, 1, 2, 3)
		if bytes.Equal(image, second) {
			t.Error("an image became another one when another was changed")
		}
		same(t, d, s, "an image that was told was changed")
	}
}

// TestNothingInCommon: devices have nothing to do with each other, those of one image neither.
func TestNothingInCommon(t *testing.T) {
	one, other := made(t, 5, 2), made(t, 5, 2)
	a, b := noughts(5, 2), noughts(5, 2)
	write(t, one, a, 1, []byte{1, 2}, "the first device")
	read(t, one, a, 1, "the first device")
	write(t, other, b, 2, []byte{3, 4}, "the second device")
	same(t, one, a, "the first device")
	same(t, other, b, "the second device")

	image := filled(10, 6)
	one, other = from(t, 2, image), from(t, 2, image)
	a, b = &shadow{image: slices.Clone(image), blocks: 5, size: 2}, &shadow{image: slices.Clone(image), blocks: 5, size: 2}
	write(t, one, a, 1, []byte{1, 2}, "the first of an image")
	write(t, other, b, 4, []byte{3, 4}, "the second of an image")
	same(t, one, a, "the first of an image")
	same(t, other, b, "the second of an image")
	// The same bytes are blocks of another size, too.
	same(t, from(t, 1, image), &shadow{image: image, blocks: 10, size: 1}, "the image in smaller blocks")
}

func TestNobodyMadeIt(t *testing.T) {
	for _, d := range []*dev.Device{nil, {}, new(dev.Device)} {
		for _, i := range append(absent(5), 0, 1, 4) {
			if b, err := d.Read(i); len(b) != 0 || err != api.ErrNil {
				t.Errorf("%v: Read(%d) = %v, %d", d, i, b, err)
			}
			for _, b := range [][]byte{nil, {}, {1}, filled(4, 1)} {
				if err := d.Write(i, b); err != api.ErrNil {
					t.Errorf("%v: Write(%d) of %v = %d", d, i, b, err)
				}
			}
		}
		if d.Blocks() != 0 || d.Bytes() != 0 || d.Stats() != (api.Stats{}) || len(d.Image()) != 0 {
			t.Errorf("%v: %d blocks of %d bytes, Stats %v, Image %v", d, d.Blocks(), d.Bytes(), d.Stats(), d.Image())
		}
	}
}
