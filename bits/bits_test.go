package bits_test

import (
	"math"
	"math/rand"
	"slices"
	"testing"

	"sluicegate/api"
	"sluicegate/bits"
)

// row is a row of n places, of which those told are taken.
func row(t *testing.T, n int, taken ...int) *bits.Row {
	t.Helper()
	r, err := bits.New(n)
	if err != api.OK || r == nil {
		t.Fatalf("New(%d) = %v, %d", n, r, err)
	}
	for _, i := range taken {
		if err := r.Set(i); err != api.OK {
			t.Fatalf("Set(%d) of %d = %d", i, n, err)
		}
	}
	return r
}

// places are all numbers near the places of a row of n, or all of them, if there are few.
func places(n int) []int {
	l := []int{math.MinInt, math.MinInt + 1, -65536, -65, -64, -63, -2, -1, n, n + 1, n + 63, n + 64, 65536, 65537, math.MaxInt - 64, math.MaxInt - 1, math.MaxInt}
	for i := range n {
		if n < 300 || i < 130 || i > n-130 || i%1021 == 0 {
			l = append(l, i)
		}
	}
	return l
}

// first is the first place from one on that is taken, or free, as the document words it.
func first(taken []bool, from int, is bool) (int, bool) {
	for i := max(from, 0); i < len(taken); i++ {
		if taken[i] == is {
			return i, true
		}
	}
	return 0, false
}

// same holds a row against a list of what is taken.
func same(t *testing.T, r *bits.Row, taken []bool, what string) {
	t.Helper()
	count := 0
	for _, is := range taken {
		if is {
			count++
		}
	}
	if r.Len() != len(taken) || r.Count() != count {
		t.Fatalf("%s: Len %d, Count %d, not %d, %d", what, r.Len(), r.Count(), len(taken), count)
	}
	for _, i := range places(len(taken)) {
		if has, want := r.Has(i), i >= 0 && i < len(taken) && taken[i]; has != want {
			t.Fatalf("%s: Has(%d) = %v", what, i, has)
		}
		if at, ok := r.Free(i); !is(at, ok, taken, i, false) {
			t.Fatalf("%s: Free(%d) = %d, %v", what, i, at, ok)
		}
		if at, ok := r.Next(i); !is(at, ok, taken, i, true) {
			t.Fatalf("%s: Next(%d) = %d, %v", what, i, at, ok)
		}
	}
}

// is tells whether that is the first place from one on.
func is(at int, ok bool, taken []bool, from int, want bool) bool {
	wantAt, wantOK := first(taken, from, want)
	return at == wantAt && ok == wantOK
}

func TestNew(t *testing.T) {
	for _, n := range []int{math.MinInt, -65536, -1, 0, api.MaxBlocks + 1, api.MaxBlocks + 64, math.MaxInt} {
		if r, err := bits.New(n); r != nil || err != api.ErrArg {
			t.Errorf("New(%d) = %v, %d", n, r, err)
		}
	}
	for _, n := range []int{1, 2, 5, 62, 63, 64, 65, 70, 127, 128, 129, 8191, api.MaxBlocks - 65, api.MaxBlocks - 64, api.MaxBlocks - 1, api.MaxBlocks} {
		same(t, row(t, n), make([]bool, n), "a new row")
	}
	one, other := row(t, 70, 3), row(t, 70)
	if other.Has(3) || one.Set(4) != api.OK || other.Count() != 0 {
		t.Error("two rows have something in common")
	}
}

func TestExamples(t *testing.T) {
	r := row(t, 70, 0, 65)
	for _, x := range []struct {
		call func(int) (int, bool)
		name string
		from int
		at   int
		ok   bool
	}{
		{r.Free, "Free", 0, 1, true}, {r.Free, "Free", -1, 1, true}, {r.Free, "Free", 1, 1, true}, {r.Free, "Free", 64, 64, true},
		{r.Free, "Free", 65, 66, true}, {r.Free, "Free", 69, 69, true}, {r.Free, "Free", 70, 0, false}, {r.Free, "Free", math.MaxInt, 0, false},
		{r.Next, "Next", 0, 0, true}, {r.Next, "Next", -7, 0, true}, {r.Next, "Next", 1, 65, true}, {r.Next, "Next", 64, 65, true},
		{r.Next, "Next", 65, 65, true}, {r.Next, "Next", 66, 0, false}, {r.Next, "Next", 70, 0, false}, {r.Next, "Next", math.MinInt, 0, true},
	} {
		if at, ok := x.call(x.from); at != x.at || ok != x.ok {
			t.Errorf("%s(%d) = %d, %v, not %d, %v", x.name, x.from, at, ok, x.at, x.ok)
		}
	}
	if r.Len() != 70 || r.Count() != 2 || !r.Has(0) || r.Has(1) || r.Has(64) || !r.Has(65) || r.Has(66) || r.Has(70) || r.Has(-1) || r.Has(128) {
		t.Error("0 and 65 of 70")
	}
}

func TestSetAndClear(t *testing.T) {
	for _, n := range []int{1, 2, 63, 64, 65, 70, 128, 65535, 65536} {
		r, taken := row(t, n), make([]bool, n)
		for _, i := range []int{0, n - 1, n / 2, 63, 64, 65, n, n + 1, -1, -64, math.MinInt, math.MaxInt, 65536} {
			there := i >= 0 && i < n
			for _, set := range []bool{false, true, true, false, false, true} {
				call, want := r.Clear, api.OK
				if set {
					call = r.Set
				}
				switch {
				case !there:
					want = api.ErrRange
				case taken[i] && set:
					want = api.ErrTwice
				case !taken[i] && !set:
					want = api.ErrNone
				}
				if err := call(i); err != want {
					t.Fatalf("%d of %d, set %v: %d, not %d", i, n, set, err, want)
				}
				if there {
					taken[i] = set
				}
				if r.Has(i) != (there && set) {
					t.Fatalf("Has(%d) of %d, set %v", i, n, set)
				}
			}
			if n < 300 {
				same(t, r, taken, "set and cleared")
			}
		}
		same(t, r, taken, "set and cleared")
	}
}

// TestAllSmallRows goes through each row of a few places, each single change of it, and a fork of it.
func TestAllSmallRows(t *testing.T) {
	for n := 1; n <= 8; n++ {
		for mask := range 1 << n {
			taken := make([]bool, n)
			r := row(t, n)
			for i := range n {
				if mask>>i&1 == 1 {
					taken[i] = true
					r.Set(i)
				}
			}
			same(t, r, taken, "a small row")
			for i := range n {
				changed := slices.Clone(taken)
				changed[i] = !changed[i]
				f := r.Fork()
				if taken[i] {
					f.Clear(i)
				} else {
					f.Set(i)
				}
				same(t, f, changed, "a small row, changed")
			}
			same(t, r, taken, "a small row that was forked")
		}
	}
}

func TestManyChanges(t *testing.T) {
	for _, n := range []int{1, 63, 64, 65, 129, 200, 257} {
		chance := rand.New(rand.NewSource(int64(n)))
		r, taken := row(t, n), make([]bool, n)
		for step := range 600 {
			i := chance.Intn(n+4) - 2
			set := chance.Intn(3) != step/200%2
			want := api.ErrRange
			if i >= 0 && i < n {
				switch {
				case taken[i] && set:
					want = api.ErrTwice
				case !taken[i] && !set:
					want = api.ErrNone
				default:
					want, taken[i] = api.OK, set
				}
			}
			call := r.Clear
			if set {
				call = r.Set
			}
			if err := call(i); err != want {
				t.Fatalf("%d of %d, set %v: %d, not %d", i, n, set, err, want)
			}
			if step%20 == 0 {
				same(t, r, taken, "many changes")
			}
		}
	}
}

// TestAllTaken: the words' last bits, behind the last place, are nobody's, however full the row is.
func TestAllTaken(t *testing.T) {
	for _, n := range []int{1, 2, 63, 64, 65, 70, 128, 129, 65535, 65536} {
		r, taken := row(t, n), make([]bool, n)
		for i := range n {
			if at, ok := r.Free(-1); at != i || !ok || r.Set(at) != api.OK {
				t.Fatalf("Free of %d, of which %d are taken: %d, %v", n, i, at, ok)
			}
			taken[i] = true
		}
		same(t, r, taken, "all taken")
		if at, ok := r.Free(0); at != 0 || ok {
			t.Fatalf("Free of %d, all taken: %d, %v", n, at, ok)
		}
		if err := r.Clear(n - 1); err != api.OK {
			t.Fatal(err)
		}
		if at, ok := r.Free(0); at != n-1 || !ok {
			t.Fatalf("Free of %d, all taken but the last: %d, %v", n, at, ok)
		}
		for i := range n - 1 {
			if at, ok := r.Next(0); at != i || !ok || r.Clear(at) != api.OK {
				t.Fatalf("Next of %d, of which %d were cleared: %d, %v", n, i, at, ok)
			}
		}
		same(t, r, make([]bool, n), "all cleared")
	}
}

// TestGoingThroughAll goes from each place to the next one.
func TestGoingThroughAll(t *testing.T) {
	for _, n := range []int{1, 7, 64, 65, 200, 1000, 65536} {
		for _, every := range []int{1, 2, 3, 63, 64, 65, 100} {
			r := row(t, n)
			var taken, free []int
			for i := range n {
				if i%every == every-1 {
					taken = append(taken, i)
					r.Set(i)
				} else {
					free = append(free, i)
				}
			}
			if got := through(r.Next); !slices.Equal(got, taken) {
				t.Errorf("every %d. of %d taken: Next tells %v", every, n, got)
			}
			if got := through(r.Free); !slices.Equal(got, free) {
				t.Errorf("every %d. of %d taken: Free tells %v", every, n, got)
			}
			if r.Count() != len(taken) {
				t.Errorf("every %d. of %d taken: Count %d", every, n, r.Count())
			}
		}
	}
}

// through is all places that are told, going from each to the next one.
func through(next func(int) (int, bool)) []int {
	var l []int
	for i, ok := next(0); ok; i, ok = next(i + 1) {
		l = append(l, i)
	}
	return l
}

func TestFork(t *testing.T) {
	for _, n := range []int{1, 64, 70, 65536} {
		r, taken := row(t, n, 0), make([]bool, n)
		taken[0] = true
		f := r.Fork()
		if f == nil || f == r {
			t.Fatalf("Fork of %d", n)
		}
		same(t, f, taken, "a fork")
		if f.Set(0) != api.ErrTwice || f.Set(n) != api.ErrRange || f.Set(-1) != api.ErrRange || f.Clear(n) != api.ErrRange {
			t.Errorf("a fork of %d", n)
		}
		second := f.Fork()
		if f.Clear(0) != api.OK {
			t.Errorf("Clear of a fork of %d", n)
		}
		same(t, f, make([]bool, n), "a fork that was changed")
		same(t, r, taken, "a row whose fork was changed")
		same(t, second, taken, "a fork of a fork that was changed")
		last := f.Fork()
		if r.Clear(0) != api.OK || r.Set(n-1) != api.OK {
			t.Errorf("a row of %d that was forked", n)
		}
		same(t, last, make([]bool, n), "a fork whose row was changed")
		same(t, second, taken, "a fork whose row was changed")
	}
}

func TestNobodyMadeIt(t *testing.T) {
	for _, r := range []*bits.Row{nil, {}, new(bits.Row)} {
		for _, i := range places(3) {
			if r.Set(i) != api.ErrNil || r.Clear(i) != api.ErrNil || r.Has(i) {
				t.Errorf("%v at %d: Set %d, Clear %d, Has %v", r, i, r.Set(i), r.Clear(i), r.Has(i))
			}
			if at, ok := r.Free(i); at != 0 || ok {
				t.Errorf("%v: Free(%d) = %d, %v", r, i, at, ok)
			}
			if at, ok := r.Next(i); at != 0 || ok {
				t.Errorf("%v: Next(%d) = %d, %v", r, i, at, ok)
			}
		}
		if r.Len() != 0 || r.Count() != 0 || r.Fork() != nil {
			t.Errorf("%v: Len %d, Count %d, Fork %v", r, r.Len(), r.Count(), r.Fork())
		}
	}
}
