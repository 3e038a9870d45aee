package head_test

import (
	"bytes"
	"encoding/binary"
	"math"
	"math/rand"
	"slices"
	"strconv"
	"strings"
	"testing"

	"sluicegate/api"
	"sluicegate/conf"
	"sluicegate/head"
)

// Settings whose nodes have as little room as may be, those of the examples, some by odd numbers, as many parts as may be, and the longest keys and values.
var (
	few  = api.Config{Blocks: 5, Bytes: 134, Frames: 8, Fan: 8, Buffer: 16, Leaf: 16, Key: 1, Val: 0}
	some = api.Config{Blocks: 100, Bytes: 173, Frames: 8, Fan: 8, Buffer: 16, Leaf: 16, Key: 2, Val: 1}
	odd  = api.Config{Blocks: 4321, Bytes: 345, Frames: 9, Fan: 11, Buffer: 23, Leaf: 37, Key: 3, Val: 3}
	many = api.Config{Blocks: 65536, Bytes: 65536, Frames: 64, Fan: 64, Buffer: 512, Leaf: 1024, Key: 30, Val: 30}
	long = api.Config{Blocks: 65536, Bytes: 5679, Frames: 8, Fan: 8, Buffer: 16, Leaf: 16, Key: 64, Val: 256}
)

// settings are all of these.
func settings() []api.Config { return []api.Config{few, some, odd, many, long} }

// shown are heads, and their blocks without the bytes 0 at the end, by hand.
func shown() []struct {
	h head.Head
	b string
} {
	return []struct {
		h head.Head
		b string
	}{
		{head.Head{Config: few, Root: 1, Height: 1}, "83 76 85 73 67 69 48 49  0 0 0 5  0 0 0 134  0 0 0 8  0 0 0 8  0 0 0 16  0 0 0 16  0 0 0 1  0 0 0 0  0 0 0 1  0 0 0 1  0*12  153 129 2 229"},
		{head.Head{Config: some, Root: 7, Height: 3}, "83 76 85 73 67 69 48 49  0 0 0 100  0 0 0 173  0 0 0 8  0 0 0 8  0 0 0 16  0 0 0 16  0 0 0 2  0 0 0 1  0 0 0 7  0 0 0 3  0*12  179 57 3 117"},
		{head.Head{Config: odd, Root: 258, Height: 2}, "83 76 85 73 67 69 48 49  0 0 16 225  0 0 1 89  0 0 0 9  0 0 0 11  0 0 0 23  0 0 0 37  0 0 0 3  0 0 0 3  0 0 1 2  0 0 0 2  0*12  195 131 3 205"},
		{head.Head{Config: many, Root: 65535, Height: 41}, "83 76 85 73 67 69 48 49  0 1 0 0  0 1 0 0  0 0 0 64  0 0 0 64  0 0 2 0  0 0 4 0  0 0 0 30  0 0 0 30  0 0 255 255  0 0 0 41  0*12  185 107 5 18"},
		{head.Head{Config: long, Root: 4660, Height: 40}, "83 76 85 73 67 69 48 49  0 1 0 0  0 0 22 47  0 0 0 8  0 0 0 8  0 0 0 16  0 0 0 16  0 0 0 64  0 0 1 0  0 0 18 52  0 0 0 40  0*12  154 71 3 76"},
	}
}

// row are bytes as a text has them: numbers, of which n*k is k times n.
func row(text string) []byte {
	var b []byte
	for _, word := range strings.Fields(text) {
		digits, times, repeated := strings.Cut(word, "*")
		n, k := number(digits), 1
		if repeated {
			k = number(times)
		}
		b = append(b, bytes.Repeat([]byte{byte(n)}, k)...)
	}
	return b
}

// number is the number that a text of these tests has.
func number(digits string) int {
	n, err := strconv.Atoi(digits)
	if err != nil {
		panic(err)
	}
	return n
}

// filled are bytes, and bytes 0 up to so many.
func filled(b []byte, most int) []byte {
	return append(slices.Clone(b), make([]byte, most-len(b))...)
}

// sum is the sum of bytes, each of which counts in the upper half once for itself and each one behind it.
func sum(b []byte) uint32 {
	lower, upper := 1, len(b)
	for i, x := range b {
		lower += int(x)
		upper += int(x) * (len(b) - i)
	}
	return uint32(upper%65521*65536 + lower%65521)
}

// mended is a block with the sum that the bytes ahead of it have.
func mended(b []byte) []byte {
	mine := slices.Clone(b)
	binary.BigEndian.PutUint32(mine[60:], sum(mine[:60]))
	return mine
}

// laid is the block of any numbers, in the document's order, of so many bytes.
func laid(l [10]uint32, most int) []byte {
	b := []byte("SLUICE01")
	for _, n := range l {
		b = binary.BigEndian.AppendUint32(b, n)
	}
	return mended(filled(b, most))
}

// numbers are a head's, in the document's order; of one that is not right, what is left of them in four bytes.
func numbers(h head.Head) [10]uint32 {
	c := h.Config
	return [10]uint32{uint32(c.Blocks), uint32(c.Bytes), uint32(c.Frames), uint32(c.Fan), uint32(c.Buffer), uint32(c.Leaf), uint32(c.Key), uint32(c.Val), h.Root, uint32(h.Height)}
}

// block is a right head's block, as the words have it.
func block(h head.Head) []byte {
	return laid(numbers(h), h.Config.Bytes)
}

// right tells whether a head is right, as the words have it.
func right(h head.Head) bool {
	return conf.Check(h.Config) == api.OK && h.Root >= 1 && int64(h.Root) <= int64(h.Config.Blocks)-1 && h.Height >= 1 && h.Height <= 41
}

// has is the head whose block these bytes are, and whether they are one's.
func has(b []byte) (head.Head, bool) {
	if len(b) < 64 {
		return head.Head{}, false
	}
	var l [10]int
	for i := range l {
		l[i] = int(binary.BigEndian.Uint32(b[8+4*i:]))
	}
	h := head.Head{Config: api.Config{Blocks: l[0], Bytes: l[1], Frames: l[2], Fan: l[3], Buffer: l[4], Leaf: l[5], Key: l[6], Val: l[7]}, Root: uint32(l[8]), Height: l[9]}
	if !right(h) || !bytes.Equal(block(h), b) {
		return head.Head{}, false
	}
	return h, true
}

// held holds Right and Encode against the words, and what is read of a block against the head; it is whether the head is right.
func held(t *testing.T, h head.Head) bool {
	t.Helper()
	want := right(h)
	if head.Right(h) != want {
		t.Fatalf("Right(%+v) = %t", h, !want)
	}
	b, err := head.Encode(h)
	if !want {
		if len(b) != 0 || err != api.ErrArg {
			t.Fatalf("Encode(%+v) = %d bytes %.300v, %d", h, len(b), b, err)
		}
		return false
	}
	if must := block(h); err != api.OK || !bytes.Equal(b, must) {
		t.Fatalf("Encode(%+v) = %d bytes %.300v, %d, not %d bytes %.300v", h, len(b), b, err, len(must), must)
	}
	if back, err := head.Decode(b); err != api.OK || back != h {
		t.Fatalf("%+v is read as %+v, %d", h, back, err)
	}
	return true
}

// read holds Decode against the words, and what is read against what is written for it; it is whether there is a head.
func read(t *testing.T, b []byte) bool {
	t.Helper()
	must, ok := has(b)
	no := api.OK
	if !ok {
		no = api.ErrCorrupt
	}
	h, err := head.Decode(b)
	if err != no || h != must {
		t.Fatalf("Decode of %d bytes %.300v = %+v, %d, not %+v, %d", len(b), b, h, err, must, no)
	}
	if !ok {
		return false
	}
	if again, err := head.Encode(h); err != api.OK || !bytes.Equal(again, b) {
		t.Fatalf("Encode(%+v) = %.300v, %d, not the bytes that were read, %.300v", h, again, err, b)
	}
	return true
}

// refused holds that bytes are no head's block.
func refused(t *testing.T, b []byte, why string) {
	t.Helper()
	if _, ok := has(b); ok {
		t.Fatalf("%s: %d bytes %.300v have a head", why, len(b), b)
	}
	if h, err := head.Decode(b); h != (head.Head{}) || err != api.ErrCorrupt {
		t.Fatalf("%s: Decode of %d bytes %.300v = %+v, %d", why, len(b), b, h, err)
	}
}

func TestExample(t *testing.T) {
	for _, n := range []int{0, 1, 8, 48, 59, 60, 63, 64, 65, 134, 173, 65536, 65537} {
		refused(t, make([]byte, n), "noughts")
	}
	refused(t, nil, "nothing")
}

func TestBlocks(t *testing.T) {
	for _, x := range shown() {
		if !held(t, x.h) {
			t.Fatalf("%+v is not right", x.h)
		}
		must := filled(row(x.b), x.h.Config.Bytes)
		if b, err := head.Encode(x.h); err != api.OK || !bytes.Equal(b, must) {
			t.Errorf("Encode(%+v) = %d bytes %.300v, %d, not %d bytes %.300v", x.h, len(b), b, err, len(must), must)
		}
		if h, err := head.Decode(must); err != api.OK || h != x.h {
			t.Errorf("Decode of %d bytes %.300v = %+v, %d, not %+v", len(must), must, h, err, x.h)
		}
	}
}

// wide is a number of which four bytes would say n.
func wide(n int) int {
	top := int64(1) << 32
	return n + int(top)
}

// ends are numbers at which a check may go wrong, beside those around a limit.
func ends() []int {
	return []int{math.MinInt, math.MinInt + 1, math.MinInt32, -256, -1, 0, 1, 2, 255, 256, 257, 65535, 65536, 65537, math.MaxInt32, wide(-1), wide(0), wide(1), wide(8), wide(100), math.MaxInt - 1, math.MaxInt}
}

// roots are Roots around the limits that Blocks has, and at the ends of all numbers.
func roots(blocks int) []uint32 {
	l := []uint32{0, 1, 2, 3, 4, 5, 65534, 65535, 65536, 65537, 1<<31 - 1, 1 << 31, 1<<31 + 1, math.MaxUint32 - 1, math.MaxUint32}
	for _, n := range []int{-2, -1, 0, 1, 2} {
		l = append(l, uint32(blocks+n))
	}
	return l
}

// heights are Heights around the limits, and at the ends of all numbers.
func heights() []int {
	return append(ends(), 3, 20, 39, 40, 41, 42, 43, 64, wide(41), wide(42))
}

func TestRootsAndHeights(t *testing.T) {
	for _, c := range settings() {
		for _, root := range roots(c.Blocks) {
			for _, height := range heights() {
				h := head.Head{Config: c, Root: root, Height: height}
				held(t, h)
				read(t, laid(numbers(h), c.Bytes))
			}
		}
		for height := range 300 {
			if ok := held(t, head.Head{Config: c, Root: 1, Height: height}); ok != (height >= 1 && height <= 41) {
				t.Errorf("a height of %d is right: %t", height, ok)
			}
		}
	}
	small := few
	for small.Blocks = 5; small.Blocks < 300; small.Blocks++ {
		for root := range uint32(310) {
			if ok := held(t, head.Head{Config: small, Root: root, Height: 1}); ok != (root >= 1 && int(root) < small.Blocks) {
				t.Errorf("of %d blocks the root %d is right: %t", small.Blocks, root, ok)
			}
		}
	}
}

// fields are where the numbers of settings stand, in the document's order.
func fields() []func(c *api.Config) *int {
	return []func(c *api.Config) *int{
		func(c *api.Config) *int { return &c.Blocks }, func(c *api.Config) *int { return &c.Bytes },
		func(c *api.Config) *int { return &c.Frames }, func(c *api.Config) *int { return &c.Fan },
		func(c *api.Config) *int { return &c.Buffer }, func(c *api.Config) *int { return &c.Leaf },
		func(c *api.Config) *int { return &c.Key }, func(c *api.Config) *int { return &c.Val },
	}
}

// Each number of the settings at and beyond its limits, with a Root and a Height that are right, just right for these settings, or not.
func TestSettings(t *testing.T) {
	for _, c := range settings() {
		for i, at := range fields() {
			own := *at(&c)
			for _, v := range append(ends(), own-1, own, own+1, 4, 5, 6, 7, 8, 9, 15, 16, 17, 63, 64, 65, 128, 511, 512, 513, 1023, 1024, 1025, wide(own)) {
				other := c
				*at(&other) = v
				for _, h := range []head.Head{{other, 1, 1}, {other, uint32(c.Blocks - 1), 41}, {other, uint32(other.Blocks - 1), 2}, {other, 0, 1}, {other, uint32(other.Blocks), 1}, {other, 1, 0}, {other, 1, 42}} {
					if held(t, h) && conf.Check(other) != api.OK {
						t.Errorf("%+v is right", h)
					}
					l := numbers(h)
					l[i] = uint32(v)
					read(t, laid(l, c.Bytes))
				}
			}
		}
	}
	for _, h := range []head.Head{{}, {Root: 1, Height: 1}, {Config: api.Config{Blocks: 100}, Root: 1, Height: 1}} {
		if held(t, h) {
			t.Errorf("%+v is right", h)
		}
	}
}

// Bytes above the fewest are all 0 behind the sum.
func TestMoreBytes(t *testing.T) {
	for _, c := range settings() {
		for _, n := range []int{c.Bytes, c.Bytes + 1, c.Bytes + 7, 20000, 65535, 65536} {
			other := c
			other.Bytes = n
			if held(t, head.Head{Config: other, Root: 3, Height: 4}) != (n >= conf.Least(c).Bytes && n <= 65536) {
				t.Errorf("%+v, otherwise than its bytes ask", other)
			}
		}
	}
}

// turned is a block with the byte at a place changed to each other one, or, of a great block, to some.
func turned(b []byte, at int, do func(b []byte)) {
	mine := slices.Clone(b)
	for x := range 256 {
		if byte(x) != b[at] && (len(b) < 6000 || x%51 < 3) {
			mine[at] = byte(x)
			do(mine)
		}
	}
}

func TestEachByteTurned(t *testing.T) {
	for _, x := range shown() {
		b := filled(row(x.b), x.h.Config.Bytes)
		for at := range b {
			if at < 80 || at >= len(b)-3 || at%997 == 0 {
				turned(b, at, func(b []byte) { refused(t, b, "a byte turned") })
			}
		}
		small := x.h
		small.Config = few
		small.Root %= 5
		if !held(t, small) {
			continue
		}
		b = block(small)
		for at := range b {
			turned(b, at, func(b []byte) { refused(t, b, "a byte turned") })
		}
	}
}

// With the sum mended, each of the bytes that it is of still counts: a letter, a number, a byte 0.
func TestEachByteTurnedAndMended(t *testing.T) {
	heads := 0
	for _, x := range shown() {
		b := filled(row(x.b), x.h.Config.Bytes)
		for at := range 60 {
			turned(b, at, func(b []byte) {
				b = mended(b)
				if !read(t, b) {
					return
				}
				heads++
				if at < 8 || at >= 48 {
					t.Fatalf("with byte %d turned there is a head", at)
				}
			})
		}
	}
	if heads < 1000 {
		t.Errorf("there are but %d heads", heads)
	}
}

func TestLetters(t *testing.T) {
	b := block(head.Head{Config: some, Root: 7, Height: 3})
	for _, letters := range []string{"SLUICE00", "SLUICE02", "SLUICE10", "sluice01", "SLUICE01"[:7] + "\x00", "\x00SLUICE0", "10ECIULS", "\x00\x00\x00\x00\x00\x00\x00\x00", "SLUICE1\x00", "SLUICE 1", "SLIUCE01"} {
		mine := slices.Clone(b)
		copy(mine, letters)
		refused(t, mine, letters)
		refused(t, mended(mine), letters)
	}
	mine := slices.Clone(b)
	copy(mine, "SLUICE01")
	if !read(t, mine) {
		t.Error("with its letters it has no head")
	}
}

func TestSums(t *testing.T) {
	for _, x := range shown() {
		b := filled(row(x.b), x.h.Config.Bytes)
		is := sum(b[:60])
		if binary.BigEndian.Uint32(b[60:]) != is {
			t.Fatalf("the sum of %v is %d", b[:60], is)
		}
		wrong := []uint32{0, 1, is + 1, is - 1, is + 65521, is - 65521, is + 65521*65536, is + 65536, is - 65536, ^is, is<<16 | is>>16,
			binary.LittleEndian.Uint32(b[60:]), sum(b[:59]), sum(b[1:60]), sum(b[8:60]), sum(b[8:48]), sum(b[:48]), sum(b), sum(append(slices.Clone(b[:60]), 0, 0, 0, 0)), sum(nil), math.MaxUint32}
		for _, s := range wrong {
			if s != is {
				mine := slices.Clone(b)
				binary.BigEndian.PutUint32(mine[60:], s)
				refused(t, mine, "another sum")
			}
		}
	}
	// The sum of 60 bytes 0, and of none, without the letters.
	refused(t, mended(make([]byte, 173)), "noughts with a sum")
}

// Neighbours that change places, each pair of them.
func TestNeighboursSwapped(t *testing.T) {
	for _, x := range shown() {
		b := filled(row(x.b), x.h.Config.Bytes)
		for i := range 66 {
			mine := slices.Clone(b)
			mine[i], mine[i+1] = b[i+1], b[i]
			if !bytes.Equal(mine, b) {
				refused(t, mine, "neighbours swapped")
			}
		}
	}
}

func TestLengths(t *testing.T) {
	for _, x := range shown() {
		b := filled(row(x.b), x.h.Config.Bytes)
		for n := range b {
			if n < 200 || n > len(b)-5 {
				refused(t, b[:n], "its first bytes")
			}
		}
		for _, more := range []int{1, 2, 3, 4, 64, 65536} {
			refused(t, filled(b, len(b)+more), "more bytes")
			if !read(t, b) {
				t.Fatalf("%s has no head", x.b)
			}
		}
		refused(t, append(slices.Clone(b), b...), "twice")
		refused(t, b[1:], "moved")
		refused(t, append([]byte{0}, b...), "moved")
		refused(t, append([]byte{0}, b[:len(b)-1]...), "moved")
		refused(t, append(slices.Clone(b[1:]), 0), "moved")
	}
}

// The bytes are as many as they themselves say: of right heads, and of others.
func TestLengthsThatAreSaid(t *testing.T) {
	said := []uint32{0, 1, 59, 60, 63, 64, 65, 104, 133, 134, 172, 173, 174, 175, 345, 65535, 65536, 65537, 1 << 31, math.MaxUint32 - 64, math.MaxUint32}
	for _, c := range settings() {
		for _, n := range said {
			l := numbers(head.Head{Config: c, Root: 1, Height: 1})
			l[1] = n
			for _, most := range []int{64, 65, 134, 172, 173, 174, c.Bytes - 1 + c.Bytes%2, c.Bytes, 65536, 65537} {
				if ok := read(t, laid(l, most)); ok != (most == int(n) && most >= conf.Least(c).Bytes && most <= 65536) {
					t.Errorf("%d bytes that say %d have a head: %t", most, n, ok)
				}
			}
		}
	}
}

// The bytes that must be 0: between the numbers and the sum (mended or not), and behind it.
func TestZeros(t *testing.T) {
	for _, x := range shown() {
		b := filled(row(x.b), x.h.Config.Bytes)
		for at := range b {
			if at >= 48 && at < 60 || at >= 64 && (at < 300 || at > len(b)-300) {
				for _, v := range []byte{1, 2, 128, 255} {
					mine := slices.Clone(b)
					mine[at] = v
					refused(t, mine, "a byte that must be 0")
					refused(t, mended(mine), "a byte that must be 0")
				}
			}
		}
		mine := slices.Clone(b)
		mine[len(b)-1], mine[64], mine[48] = 255, 1, 7
		refused(t, mended(mine), "bytes that must be 0")
	}
}

// chanced is settings by chance, most of them right.
func chanced(r *rand.Rand) api.Config {
	c := api.Config{Blocks: 5 + r.Intn(1<<(1+r.Intn(16))), Frames: 8 + r.Intn(57), Fan: 8 + r.Intn(57), Key: 1 + r.Intn(64), Val: r.Intn(257)}
	c.Buffer = 2*c.Fan + r.Intn(100)
	c.Leaf = c.Buffer + r.Intn(300)
	c = conf.Least(c)
	c.Bytes += r.Intn(3) * r.Intn(50)
	return c
}

// What was written is read as it was; what can be read is written as those very bytes; of that with some bytes changed, too.
func TestThereAndBack(t *testing.T) {
	r := rand.New(rand.NewSource(17))
	rights, seen := 0, map[string]head.Head{}
	for range 3000 {
		h := head.Head{Config: chanced(r)}
		h.Root = uint32(r.Intn(max(1, h.Config.Blocks) + r.Intn(3)))
		h.Height = r.Intn(44)
		if !held(t, h) {
			continue
		}
		rights++
		b := block(h)
		if !read(t, b) {
			t.Fatalf("%+v has a block that has none", h)
		}
		seen[string(b)] = h
		for range 3 {
			b[r.Intn(70)] ^= byte(1 << r.Intn(8))
			read(t, b)
			read(t, mended(b))
		}
	}
	if rights < 1000 {
		t.Errorf("there are but %d right heads", rights)
	}
	for b, h := range seen {
		if back, err := head.Decode([]byte(b)); err != api.OK || back != h {
			t.Fatalf("%+v is read as %+v, %d", h, back, err)
		}
	}
}

// Each root that may be, and each height.
func TestAllRoots(t *testing.T) {
	c := few
	c.Blocks = 65536
	for root := uint32(1); root < 65536; root++ {
		h := head.Head{Config: c, Root: root, Height: 1 + int(root%41)}
		b, err := head.Encode(h)
		if err != api.OK || binary.BigEndian.Uint32(b[40:]) != root || binary.BigEndian.Uint32(b[44:]) != 1+root%41 {
			t.Fatalf("Encode(%+v) = %v, %d", h, b, err)
		}
		if back, err := head.Decode(b); err != api.OK || back != h {
			t.Fatalf("%+v is read as %+v, %d", h, back, err)
		}
	}
}

// Any bytes at all are a head's block, or are refused.
func TestAnyBytes(t *testing.T) {
	r := rand.New(rand.NewSource(71))
	for range 3000 {
		b := make([]byte, r.Intn(200))
		for i := range b {
			b[i] = byte(r.Intn(256)) >> r.Intn(9)
		}
		read(t, b)
		if r.Intn(2) == 0 {
			copy(b, "SLUICE01")
		}
		if len(b) >= 64 {
			b = mended(b)
		}
		read(t, b)
	}
}

// Nothing that is handed in changes in a call, its spare room included, nor does what was told change with it.
func TestMemory(t *testing.T) {
	for _, x := range shown() {
		first, _ := head.Encode(x.h)
		kept := slices.Clone(first)
		second, _ := head.Encode(x.h)
		for i := range second[:cap(second)] {
			second[:cap(second)][i] = 77
		}
		if third, err := head.Encode(x.h); err != api.OK || !bytes.Equal(third, kept) || !bytes.Equal(first, kept) {
			t.Fatalf("%+v: otherwise, when it is asked once more", x.h)
		}
		for _, part := range [][]byte{kept, kept[:100], kept[:63], kept[1:]} {
			all := append(append([]byte{66}, part...), 66, 66, 66)
			was := slices.Clone(all)
			h, err := head.Decode(all[1 : 1+len(part)])
			if !bytes.Equal(all, was) {
				t.Fatalf("what was handed in is %v, not %v", all, was)
			}
			if again, no := head.Decode(all[1 : 1+len(part)]); again != h || no != err {
				t.Fatalf("%v: otherwise, when it is asked once more", part)
			}
		}
	}
}

// Spare room behind what is handed in is not read: it isn't of the bytes.
func TestSpareRoom(t *testing.T) {
	for _, x := range shown() {
		b := filled(row(x.b), x.h.Config.Bytes)
		for _, n := range []int{0, 8, 59, 60, 63, 64, len(b) - 1} {
			refused(t, b[:n:len(b)], "with the rest in its spare room")
		}
		all := append(slices.Clone(b), 1, 2, 3)
		if h, err := head.Decode(all[:len(b)]); err != api.OK || h != x.h {
			t.Errorf("%+v, with spare room: %+v, %d", x.h, h, err)
		}
	}
}
