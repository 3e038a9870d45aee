package pool_test

import (
	"math"
	"math/rand"
	"slices"
	"testing"

	"sluicegate/api"
	"sluicegate/pool"
)

// made is a pool of n blocks, of which those told are held beside block 0.
func made(t *testing.T, n int, held ...uint32) *pool.Pool {
	t.Helper()
	p, err := pool.New(n)
	if err != api.OK || p == nil {
		t.Fatalf("New(%d) = %v, %d", n, p, err)
	}
	for _, i := range held {
		if err := p.Mark(i); err != api.OK {
			t.Fatalf("Mark(%d) of %d = %d", i, n, err)
		}
	}
	return p
}

// shadow tells of each block whether it must be held.
type shadow []bool

// noughts is what a new pool of n blocks must hold.
func noughts(n int, held ...uint32) shadow {
	s := make(shadow, n)
	s[0] = true
	for _, i := range held {
		s[i] = true
	}
	return s
}

// row is all that must be held.
func (s shadow) row() []uint32 {
	var l []uint32
	for i, is := range s {
		if is {
			l = append(l, uint32(i))
		}
	}
	return l
}

// grab is what a Grab must answer, as the document words it.
func (s shadow) grab(k int) ([]uint32, api.Errno) {
	if k < 0 {
		return nil, api.ErrArg
	}
	if len(s)-len(s.row()) < k {
		return nil, api.ErrFull
	}
	var l []uint32
	for i := range s {
		if len(l) < k && !s[i] {
			s[i] = true
			l = append(l, uint32(i))
		}
	}
	return l, api.OK
}

// take is what a Take must answer.
func (s shadow) take() (uint32, api.Errno) {
	for i := range s {
		if !s[i] {
			s[i] = true
			return uint32(i), api.OK
		}
	}
	return 0, api.ErrFull
}

// mark is what a Mark must answer.
func (s shadow) mark(i uint32) api.Errno {
	switch {
	case uint64(i) >= uint64(len(s)):
		return api.ErrRange
	case s[i]:
		return api.ErrTwice
	}
	s[i] = true
	return api.OK
}

// give is what a Give must answer.
func (s shadow) give(i uint32) api.Errno {
	switch {
	case uint64(i) >= uint64(len(s)):
		return api.ErrRange
	case i == 0:
		return api.ErrArg
	case !s[i]:
		return api.ErrNone
	}
	s[i] = false
	return api.OK
}

// absent are numbers of blocks that a pool of n blocks doesn't have.
func absent(n int) []uint32 {
	l := []uint32{uint32(n), uint32(n + 1), uint32(n + 63), uint32(n + 64), uint32(2 * n), api.MaxBlocks, api.MaxBlocks + 1, 1<<31 - 1, 1 << 31, 1<<31 + 1, math.MaxUint32 - 63, math.MaxUint32 - 1, math.MaxUint32}
	return slices.DeleteFunc(l, func(i uint32) bool { return i < uint32(n) })
}

// same holds all that a pool tells against what it must hold.
func same(t *testing.T, p *pool.Pool, s shadow, what string) {
	t.Helper()
	row := s.row()
	if !slices.Equal(p.Row(), row) {
		t.Fatalf("%s: the Row of %d blocks is %v, not %v", what, len(s), p.Row(), row)
	}
	if p.Held() != len(row) || p.Free() != len(s)-len(row) {
		t.Fatalf("%s: Held %d, Free %d of %d blocks, not %d", what, p.Held(), p.Free(), len(s), len(row))
	}
	for i, is := range s {
		if p.Has(uint32(i)) != is {
			t.Fatalf("%s: Has(%d) of %d blocks is %v", what, i, len(s), !is)
		}
	}
	for _, i := range absent(len(s)) {
		if p.Has(i) {
			t.Fatalf("%s: Has(%d) of %d blocks", what, i, len(s))
		}
	}
}

// grabbed holds a Grab against what it must answer.
func grabbed(t *testing.T, p *pool.Pool, s shadow, k int, what string) []uint32 {
	t.Helper()
	want, wantErr := s.grab(k)
	l, err := p.Grab(k)
	if !slices.Equal(l, want) || err != wantErr {
		t.Fatalf("%s: Grab(%d) of %d blocks = %v, %d, not %v, %d", what, k, len(s), l, err, want, wantErr)
	}
	return l
}

// taken holds a Take against what it must answer.
func taken(t *testing.T, p *pool.Pool, s shadow, what string) uint32 {
	t.Helper()
	want, wantErr := s.take()
	i, err := p.Take()
	if i != want || err != wantErr {
		t.Fatalf("%s: Take of %d blocks = %d, %d, not %d, %d", what, len(s), i, err, want, wantErr)
	}
	return i
}

// marked holds a Mark against what it must answer.
func marked(t *testing.T, p *pool.Pool, s shadow, i uint32, what string) {
	t.Helper()
	want := s.mark(i)
	if err := p.Mark(i); err != want {
		t.Fatalf("%s: Mark(%d) of %d blocks = %d, not %d", what, i, len(s), err, want)
	}
}

// given holds a Give against what it must answer.
func given(t *testing.T, p *pool.Pool, s shadow, i uint32, what string) {
	t.Helper()
	want := s.give(i)
	if err := p.Give(i); err != want {
		t.Fatalf("%s: Give(%d) of %d blocks = %d, not %d", what, i, len(s), err, want)
	}
}

func TestLimits(t *testing.T) {
	if api.MinBlocks != 5 || api.MaxBlocks != 65536 {
		t.Error("the limits are other ones than the document's")
	}
}

func TestNew(t *testing.T) {
	for _, n := range []int{math.MinInt, math.MinInt + 1, math.MinInt32, -65536, -64, -5, -1, 0, 1, 2, 3, 4, 65537, 65538, 65600, 1 << 17, math.MaxInt32, 1 << 32, 1<<32 + 5, math.MaxInt - 1, math.MaxInt} {
		if p, err := pool.New(n); p != nil || err != api.ErrArg {
			t.Errorf("New(%d) = %v, %d", n, p, err)
		}
	}
	for _, n := range []int{5, 6, 7, 62, 63, 64, 65, 66, 127, 128, 129, 1000, 65471, 65472, 65473, 65535, 65536} {
		same(t, made(t, n), noughts(n), "a new pool")
	}
}

func TestExamples(t *testing.T) {
	p, s := made(t, 5), noughts(5)
	for want := uint32(1); want <= 2; want++ {
		if i, err := p.Take(); i != want || err != api.OK {
			t.Errorf("Take = %d, %d, not %d", i, err, want)
		}
	}
	if err := p.Give(1); err != api.OK {
		t.Errorf("Give(1) = %d", err)
	}
	if l, err := p.Grab(2); !slices.Equal(l, []uint32{1, 3}) || err != api.OK {
		t.Errorf("Grab(2) = %v, %d", l, err)
	}
	if l, err := p.Grab(2); len(l) != 0 || err != api.ErrFull {
		t.Errorf("Grab(2) = %v, %d", l, err)
	}
	copy(s, []bool{true, true, true, true, false})
	same(t, p, s, "the example")
}

// TestEachPool: of all small pools, each with all sets of blocks held, each call answers as it must, and changes just what it must.
func TestEachPool(t *testing.T) {
	for n := 5; n <= 8; n++ {
		blocks := append(absent(n), 0)
		for i := 1; i < n; i++ {
			blocks = append(blocks, uint32(i))
		}
		for set := range 1 << (n - 1) {
			var held []uint32
			for i := 1; i < n; i++ {
				if set>>(i-1)&1 == 1 {
					held = append(held, uint32(i))
				}
			}
			p, s := made(t, n, held...), noughts(n, held...)
			same(t, p, s, "marked")
			taken(t, p, s, "a pool")
			same(t, p, s, "a Take")
			for k := -2; k <= n+1; k++ {
				p, s = made(t, n, held...), noughts(n, held...)
				grabbed(t, p, s, k, "a pool")
				same(t, p, s, "a Grab")
			}
			for _, i := range blocks {
				p, s = made(t, n, held...), noughts(n, held...)
				marked(t, p, s, i, "a pool")
				same(t, p, s, "a Mark")
				p, s = made(t, n, held...), noughts(n, held...)
				given(t, p, s, i, "a pool")
				same(t, p, s, "a Give")
			}
		}
	}
}

// TestGrabEdges: none, all and one more than all are asked for, and numbers that are none's.
func TestGrabEdges(t *testing.T) {
	for _, n := range []int{5, 63, 64, 65, 128, 1000, 65535, 65536} {
		p, s := made(t, n), noughts(n)
		for _, k := range []int{math.MinInt, math.MinInt32, -65536, -2, -1} {
			if l, err := p.Grab(k); len(l) != 0 || err != api.ErrArg {
				t.Errorf("Grab(%d) = %v, %d", k, l, err)
			}
		}
		for _, k := range []int{n, n + 1, 2 * n, math.MaxInt32, 1 << 32, 1<<32 + 1, math.MaxInt} {
			if l, err := p.Grab(k); len(l) != 0 || err != api.ErrFull {
				t.Errorf("Grab(%d) of %d blocks = %v, %d", k, n, l, err)
			}
		}
		grabbed(t, p, s, 0, "a new pool")
		same(t, p, s, "a Grab of none")
		grabbed(t, p, s, n-3, "a new pool")
		grabbed(t, p, s, 3, "two are free")
		same(t, p, s, "two are free")
		grabbed(t, p, s, 2, "two are free")
		same(t, p, s, "all are held")
		grabbed(t, p, s, 0, "all are held")
		grabbed(t, p, s, 1, "all are held")
		grabbed(t, p, s, -1, "all are held")
		taken(t, p, s, "all are held")
		given(t, p, s, uint32(n-1), "all are held")
		given(t, p, s, 2, "all are held")
		same(t, p, s, "two were given back")
		grabbed(t, p, s, 3, "two were given back")
		taken(t, p, s, "two were given back")
		taken(t, p, s, "two were given back")
		taken(t, p, s, "two were given back")
		same(t, p, s, "all are held once more")
	}
}

// TestAll: all blocks are taken, one by one, and each given back, in another order.
func TestAll(t *testing.T) {
	for _, n := range []int{5, 64, 65, 200, 65536} {
		p := made(t, n)
		for want := 1; want < n; want++ {
			if i, err := p.Take(); i != uint32(want) || err != api.OK {
				t.Fatalf("Take of %d = %d, %d, not %d", n, i, err, want)
			}
		}
		if i, err := p.Take(); i != 0 || err != api.ErrFull {
			t.Fatalf("Take of %d that are held = %d, %d", n, i, err)
		}
		if p.Free() != 0 || p.Held() != n || len(p.Row()) != n {
			t.Fatalf("Free %d, Held %d of %d that are held", p.Free(), p.Held(), n)
		}
		for i := n - 1; i >= 1; i-- {
			if err := p.Give(uint32(i)); err != api.OK {
				t.Fatalf("Give(%d) of %d = %d", i, n, err)
			}
			if err := p.Give(uint32(i)); err != api.ErrNone {
				t.Fatalf("Give(%d) of %d once more = %d", i, n, err)
			}
		}
		if err := p.Give(0); err != api.ErrArg {
			t.Fatalf("Give(0) of %d = %d", n, err)
		}
		same(t, p, noughts(n), "all were given back")
	}
}

func TestManyCalls(t *testing.T) {
	for _, n := range []int{5, 6, 16, 63, 64, 65, 129, 300} {
		chance := rand.New(rand.NewSource(int64(n)))
		p, s := made(t, n), noughts(n)
		for range 4000 {
			i := uint32(chance.Intn(n + 2))
			switch chance.Intn(5) {
			case 0:
				grabbed(t, p, s, chance.Intn(n/2+2)-1, "many calls")
			case 1:
				taken(t, p, s, "many calls")
			case 2:
				marked(t, p, s, i, "many calls")
			default:
				given(t, p, s, i, "many calls")
			}
			same(t, p, s, "many calls")
		}
	}
}

// TestNobodyTwice: a block that was given out, by whichever call, isn't given out again ahead of its Give.
func TestNobodyTwice(t *testing.T) {
	n := 80
	chance := rand.New(rand.NewSource(7))
	p := made(t, n)
	out := map[uint32]bool{0: true}
	give := func(l ...uint32) {
		for _, i := range l {
			if out[i] || i >= uint32(n) {
				t.Fatalf("block %d was given out twice, or is none", i)
			}
			out[i] = true
		}
	}
	for range 5000 {
		i := uint32(chance.Intn(n))
		switch chance.Intn(4) {
		case 0:
			if l, err := p.Grab(chance.Intn(12)); err == api.OK {
				give(l...)
			}
		case 1:
			if i, err := p.Take(); err == api.OK {
				give(i)
			}
		case 2:
			if p.Mark(i) == api.OK {
				give(i)
			}
		default:
			if p.Give(i) == api.OK {
				delete(out, i)
			}
		}
		if p.Free()+p.Held() != n || p.Held() != len(out) {
			t.Fatalf("Free %d, Held %d of %d, of which %d are out", p.Free(), p.Held(), n, len(out))
		}
	}
}

// TestToldIsTheAskers: what was told may be changed, and stays as it was told.
func TestToldIsTheAskers(t *testing.T) {
	p, s := made(t, 9, 4), noughts(9, 4)
	row, other := p.Row(), p.Row()
	l := grabbed(t, p, s, 3, "a pool")
	if !slices.Equal(row, []uint32{0, 4}) {
		t.Errorf("a Row became %v behind a Grab", row)
	}
	row[0], row[1] = 7, 8
	_ = append(row, 1, 2, 3)
	if !slices.Equal(other, []uint32{0, 4}) {
		t.Errorf("a Row became %v when another was changed", other)
	}
	clear(l)
	_ = append(l, 8, 8, 8)
	same(t, p, s, "lists that were told were changed")
	second := grabbed(t, p, s, 2, "lists that were told were changed")
	if !slices.Equal(l, []uint32{0, 0, 0}) || !slices.Equal(second, []uint32{5, 6}) {
		t.Errorf("the lists of two Grabs are %v and %v", l, second)
	}
}

// TestNothingInCommon: pools have nothing to do with each other.
func TestNothingInCommon(t *testing.T) {
	one, other := made(t, 70), made(t, 70)
	a, b := noughts(70), noughts(70)
	grabbed(t, one, a, 3, "the first pool")
	taken(t, other, b, "the second pool")
	marked(t, other, b, 69, "the second pool")
	given(t, one, a, 2, "the first pool")
	same(t, one, a, "the first pool")
	same(t, other, b, "the second pool")
}

func TestNobodyMadeIt(t *testing.T) {
	for _, p := range []*pool.Pool{nil, {}, new(pool.Pool)} {
		if i, err := p.Take(); i != 0 || err != api.ErrNil {
			t.Errorf("%v: Take = %d, %d", p, i, err)
		}
		for _, k := range []int{math.MinInt, -1, 0, 1, 5, math.MaxInt} {
			if l, err := p.Grab(k); len(l) != 0 || err != api.ErrNil {
				t.Errorf("%v: Grab(%d) = %v, %d", p, k, l, err)
			}
		}
		for _, i := range append(absent(5), 0, 1, 4) {
			if err := p.Mark(i); err != api.ErrNil {
				t.Errorf("%v: Mark(%d) = %d", p, i, err)
			}
			if err := p.Give(i); err != api.ErrNil {
				t.Errorf("%v: Give(%d) = %d", p, i, err)
			}
			if p.Has(i) {
				t.Errorf("%v: Has(%d)", p, i)
			}
		}
		if p.Free() != 0 || p.Held() != 0 || len(p.Row()) != 0 {
			t.Errorf("%v: Free %d, Held %d, Row %v", p, p.Free(), p.Held(), p.Row())
		}
	}
}
