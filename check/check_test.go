package check_test

import (
	"bytes"
	"hash/adler32"
	"math"
	"math/rand"
	"testing"

	"sluicegate/check"
)

// byWords is the sum as the document words it, in numbers so wide that it is enough to divide at the end.
func byWords(b []byte) uint32 {
	first, second := uint64(1), uint64(0)
	for _, x := range b {
		first += uint64(x)
		second += first
	}
	return uint32(65536*(second%65521) + first%65521)
}

// rising is n bytes, each one more than that ahead of it.
func rising(n int) []byte {
	b := make([]byte, n)
	for i := range b {
		b[i] = byte(i)
	}
	return b
}

// chance is n bytes that look like nothing, the same ones each time.
func chance(seed int64, n int) []byte {
	b := make([]byte, n)
	rand.New(rand.NewSource(seed)).Read(b)
	return b
}

// many is texts of many lengths and kinds of bytes.
func many() [][]byte {
	// Of this one the lower half is 65521, and so 0, at the last byte.
	round := append(bytes.Repeat([]byte{255}, 256), 240)
	l := [][]byte{
		nil, {}, {0}, {1}, {13}, {14}, {127}, {128}, {255}, []byte("a"), []byte("ab"), []byte("SLUICE01"), round,
		append(bytes.Clone(round), 0), append(bytes.Clone(round), 1), append(bytes.Clone(round), 255),
		round[:256], append(bytes.Repeat([]byte{255}, 256), 239), append(bytes.Repeat([]byte{255}, 256), 241),
		make([]byte, 65519), make([]byte, 65520), make([]byte, 65521), make([]byte, 65522), make([]byte, 70000),
		bytes.Repeat([]byte{255}, 5552), bytes.Repeat([]byte{255}, 5553), bytes.Repeat([]byte{255}, 300000),
		rising(256), rising(65536),
	}
	for n := range 70 {
		l = append(l, chance(int64(n), n), chance(int64(n), 37*n))
	}
	return l
}

func TestSumOfOneText(t *testing.T) {
	for _, x := range []struct {
		b    []byte
		want uint32
	}{
		{nil, 1}, {[]byte{}, 1}, {[]byte("a"), 6422626}, {[]byte{0}, 65537}, {[]byte{0, 0}, 2*65536 + 1},
		{[]byte{1}, 2*65536 + 2}, {[]byte{1, 2}, 6*65536 + 4}, {[]byte{2, 1}, 7*65536 + 4}, {[]byte{255}, 256*65536 + 256},
		{[]byte("Wikipedia"), 0x11e60398}, {make([]byte, 65520), 65520*65536 + 1}, {make([]byte, 65521), 1},
	} {
		if got := check.Sum(x.b); got != x.want {
			t.Errorf("Sum(%.20q) = %d, not %d", x.b, got, x.want)
		}
	}
	for _, b := range many() {
		if got := check.Sum(b); got != byWords(b) || got != adler32.Checksum(b) {
			t.Errorf("Sum(%d bytes %.20q) = %d, not %d", len(b), b, got, byWords(b))
		}
	}
}

func TestSumOfNoText(t *testing.T) {
	if check.Sum() != 1 || check.Sum([][]byte{}...) != 1 || check.Sum(nil, nil) != 1 || check.Sum(nil, []byte{}, nil) != 1 {
		t.Error(check.Sum(), check.Sum([][]byte{}...), check.Sum(nil, nil), check.Sum(nil, []byte{}, nil))
	}
}

func TestSumOfTexts(t *testing.T) {
	all := many()
	for i := range all {
		for _, l := range [][][]byte{all[i:min(i+2, len(all))], all[:i], {nil, all[i]}, {all[i], nil}, {all[i], nil, all[i], {7}}} {
			if got, want := check.Sum(l...), byWords(bytes.Join(l, nil)); got != want {
				t.Errorf("Sum of %d texts, at %d: %d, not %d", len(l), i, got, want)
			}
		}
	}
	if check.Sum([]byte("a"), []byte("b")) == check.Sum([]byte("b"), []byte("a")) {
		t.Error("texts stand in no order")
	}
}

func TestRight(t *testing.T) {
	for _, b := range many() {
		sum := byWords(b)
		if !check.Right(b, sum) {
			t.Errorf("%d is %.20q's sum", sum, b)
		}
		for _, no := range []uint32{sum + 1, sum - 1, sum + 65536, sum - 65536, ^sum} {
			if check.Right(b, no) {
				t.Errorf("%d isn't %.20q's sum", no, b)
			}
		}
		for bit := range 32 {
			if check.Right(b, sum^1<<bit) {
				t.Errorf("%d isn't %.20q's sum", sum^1<<bit, b)
			}
		}
	}
	if check.Right(nil, 0) || !check.Right(nil, 1) || !check.Right([]byte{}, 1) || !check.Right([]byte("a"), 6422626) {
		t.Error("nothing, and a")
	}
}

// TestRightAsksForTheSumItself hands in numbers that are no sums, but whose halves leave a sum's when divided.
func TestRightAsksForTheSumItself(t *testing.T) {
	b := []byte{13}
	if !check.Right(b, 14*65536+14) {
		t.Fatal("13")
	}
	for _, no := range []uint32{14*65536 + 65535, 65535*65536 + 14, math.MaxUint32} {
		if check.More(no, nil) != 14*65536+14 || check.Right(b, no) {
			t.Errorf("%d is no sum", no)
		}
	}
}

func TestMore(t *testing.T) {
	for _, x := range []struct {
		sum  uint32
		b    []byte
		want uint32
	}{
		{1, nil, 1}, {1, []byte("a"), 6422626}, {6422626, nil, 6422626}, {6422626, []byte{}, 6422626},
		{6422626, []byte{0}, 196*65536 + 98}, {6422626, []byte{1, 2}, 298*65536 + 101},
		{65520*65536 + 65520, nil, 65520*65536 + 65520}, {65520*65536 + 65520, []byte{0}, 65519*65536 + 65520},
		{65520*65536 + 65520, []byte{1}, 65520 * 65536}, {65520*65536 + 65520, []byte{2}, 1},
		{65520*65536 + 65520, []byte{255}, 253*65536 + 254},
	} {
		if got := check.More(x.sum, x.b); got != x.want {
			t.Errorf("More(%d, %v) = %d, not %d", x.sum, x.b, got, x.want)
		}
	}
	for _, a := range many() {
		for _, b := range [][]byte{nil, {0}, {255}, []byte("ab"), rising(700)} {
			want := byWords(append(bytes.Clone(a), b...))
			if got := check.More(check.Sum(a), b); got != want {
				t.Errorf("More(Sum(%.20q), %.20q) = %d, not %d", a, b, got, want)
			}
		}
	}
}

// TestMoreOfNoSum: both halves count as what they leave when divided by 65521, also with nothing behind.
func TestMoreOfNoSum(t *testing.T) {
	for _, x := range []struct {
		sum  uint32
		b    []byte
		want uint32
	}{
		{0, nil, 0}, {0, []byte{0, 0}, 0}, {0, []byte{5}, 5*65536 + 5},
		{65520, nil, 65520}, {65521, nil, 0}, {65522, nil, 1}, {65535, nil, 14},
		{65520 * 65536, nil, 65520 * 65536}, {65521 * 65536, nil, 0}, {65522 * 65536, nil, 65536}, {65535 * 65536, nil, 14 * 65536},
		{math.MaxUint32, nil, 14*65536 + 14}, {math.MaxUint32, []byte{}, 14*65536 + 14},
		{math.MaxUint32, []byte("a"), 125*65536 + 111}, {math.MaxUint32, []byte{0}, 28*65536 + 14},
		{65521*65536 + 65521, []byte{1, 1}, 3*65536 + 2},
	} {
		if got := check.More(x.sum, x.b); got != x.want {
			t.Errorf("More(%d, %v) = %d, not %d", x.sum, x.b, got, x.want)
		}
	}
	for lower := uint32(65500); lower < 65536; lower++ {
		for upper := uint32(65500); upper < 65536; upper++ {
			divided := upper%65521*65536 + lower%65521
			for _, b := range [][]byte{nil, {0}, {21, 0, 255}} {
				if got, want := check.More(upper*65536+lower, b), check.More(divided, b); got != want || b == nil && got != divided {
					t.Fatalf("More(%d, %v) = %d, not %d", upper*65536+lower, b, got, want)
				}
			}
		}
	}
}

func TestAnotherByteShows(t *testing.T) {
	for _, x := range []struct {
		b    []byte
		step int
	}{
		{[]byte{0}, 1}, {[]byte{255}, 1}, {[]byte{0, 0, 0}, 1}, {[]byte("SLUICE01"), 1}, {rising(60), 1}, {chance(3, 200), 1},
		{bytes.Repeat([]byte{255}, 3000), 100}, {make([]byte, 70000), 10000},
	} {
		sum := check.Sum(x.b)
		turned := bytes.Clone(x.b)
		for i := 0; i < len(x.b); i += x.step {
			for by := 1; by < 256; by += min(x.step, 27) {
				turned[i] = x.b[i] + byte(by)
				if check.Sum(turned) == sum || check.Right(turned, sum) {
					t.Fatalf("byte %d of %d, %d in the place of %d, doesn't show", i, len(x.b), turned[i], x.b[i])
				}
			}
			turned[i] = x.b[i]
		}
	}
}

func TestNeighboursThatChangePlacesShow(t *testing.T) {
	for x := range 256 {
		for y := range 256 {
			one, two := []byte{byte(x), byte(y)}, []byte{byte(y), byte(x)}
			if (check.Sum(one) == check.Sum(two)) != (x == y) {
				t.Fatalf("%d and %d change places", x, y)
			}
		}
	}
	for _, b := range [][]byte{rising(60), []byte("SLUICE01"), chance(1, 3000), chance(2, 900)} {
		sum := check.Sum(b)
		for i := range len(b) - 1 {
			b[i], b[i+1] = b[i+1], b[i]
			if (check.Sum(b) == sum) != (b[i] == b[i+1]) {
				t.Fatalf("%d and %d change places at %d of %d", b[i+1], b[i], i, len(b))
			}
			b[i], b[i+1] = b[i+1], b[i]
		}
	}
}

func TestInWhateverParts(t *testing.T) {
	for _, b := range [][]byte{nil, {9}, []byte("SLUICE01"), rising(60), bytes.Repeat([]byte{255}, 520)} {
		sum := byWords(b)
		bytewise := uint32(1)
		for i := range b {
			bytewise = check.More(bytewise, b[i:i+1])
		}
		if bytewise != sum {
			t.Fatalf("%d bytes, one by one: %d, not %d", len(b), bytewise, sum)
		}
		for i := 0; i <= len(b); i++ {
			if check.Sum(b[:i], b[i:]) != sum || check.More(check.Sum(b[:i]), b[i:]) != sum {
				t.Fatalf("%d bytes, parted at %d", len(b), i)
			}
			for j := i; len(b) < 100 && j <= len(b); j++ {
				if check.Sum(b[:i], b[i:j], b[j:]) != sum || check.More(check.Sum(b[:i], b[i:j]), b[j:]) != sum {
					t.Fatalf("%d bytes, parted at %d and %d", len(b), i, j)
				}
			}
		}
	}
}

func TestNothingIsChangedOrKept(t *testing.T) {
	room := rising(300)
	was := bytes.Clone(room)
	l := [][]byte{room[10:20], nil, room[40:50], room[40:50]}
	sum := check.Sum(l...)
	if more := check.More(sum, room[:7]); more != check.More(sum, room[:7]) || check.Sum(l...) != sum || !check.Right(room[:7], check.Sum(room[:7])) {
		t.Error("the same call doesn't do the same")
	}
	if !bytes.Equal(room, was) || len(l) != 4 || &l[0][0] != &room[10] || l[1] != nil || &l[2][0] != &room[40] || &l[3][0] != &room[40] {
		t.Error("what was handed in was changed")
	}
	room[10]++
	if check.Sum(l...) == sum {
		t.Error("what was handed in was kept")
	}
}
