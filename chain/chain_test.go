package chain_test

import (
	"math"
	"math/rand"
	"slices"
	"testing"

	"sluicegate/api"
	"sluicegate/chain"
)

// most is how many places a chain has at most, as the document words it.
const most = 4096

// The calls that change a chain.
const (
	front = iota
	back
	cut
	calls
)

// names are the calls' names.
var names = [calls]string{"Front", "Back", "Cut"}

// made is a chain of n places with a row.
func made(t *testing.T, n int, row ...int) *chain.Chain {
	t.Helper()
	c, err := chain.New(n)
	if err != api.OK || c == nil {
		t.Fatalf("New(%d) = %v, %d", n, c, err)
	}
	for _, i := range row {
		if err := c.Back(i); err != api.OK {
			t.Fatalf("Back(%d) of %d = %d", i, n, err)
		}
	}
	return c
}

// call does a call.
func call(c *chain.Chain, which, i int) api.Errno {
	switch which {
	case front:
		return c.Front(i)
	case back:
		return c.Back(i)
	}
	return c.Cut(i)
}

// after is what a call answers, and the row behind it, as the document words it.
func after(n int, row []int, which, i int) ([]int, api.Errno) {
	if i < 0 || i >= n {
		return row, api.ErrRange
	}
	if which == cut && !slices.Contains(row, i) {
		return row, api.ErrNone
	}
	rest := without(row, i)
	switch which {
	case front:
		return append([]int{i}, rest...), api.OK
	case back:
		return append(rest, i), api.OK
	}
	return rest, api.OK
}

// without is a list of its own of all but one.
func without(row []int, i int) []int {
	var rest []int
	for _, other := range row {
		if other != i {
			rest = append(rest, other)
		}
	}
	return rest
}

// beside are numbers that a chain of n places doesn't have.
func beside(n int) []int {
	return []int{math.MinInt, math.MinInt + 1, -most, -n - 1, -n, -2, -1, n, n + 1, n + 2, 2 * n, most, most + 1, 65536, math.MaxInt - 1, math.MaxInt}
}

// same holds a chain of n places against a row.
func same(t *testing.T, c *chain.Chain, n int, row []int, what string) {
	t.Helper()
	if got := c.Row(); !slices.Equal(got, row) {
		t.Fatalf("%s: Row of %d is %v, not %v", what, n, got, row)
	}
	if c.Len() != len(row) {
		t.Fatalf("%s: Len of %d is %d, not %d", what, n, c.Len(), len(row))
	}
	first, last, some := 0, 0, len(row) > 0
	if some {
		first, last = row[0], row[len(row)-1]
	}
	if i, ok := c.First(); i != first || ok != some {
		t.Fatalf("%s: First of %v is %d, %v", what, row, i, ok)
	}
	if i, ok := c.Last(); i != last || ok != some {
		t.Fatalf("%s: Last of %v is %d, %v", what, row, i, ok)
	}
	there := make([]bool, n)
	for _, i := range row {
		there[i] = true
	}
	for i, is := range there {
		if c.Has(i) != is {
			t.Fatalf("%s: Has(%d) of %v is %v", what, i, row, !is)
		}
	}
	for _, i := range beside(n) {
		if (i < 0 || i >= n) && c.Has(i) {
			t.Fatalf("%s: Has(%d) of %d places", what, i, n)
		}
	}
}

// do does a call, holds its answer against the document, and answers the row behind it.
func do(t *testing.T, c *chain.Chain, n int, row []int, which, i int) []int {
	t.Helper()
	behind, want := after(n, row, which, i)
	if err := call(c, which, i); err != want {
		t.Fatalf("%s(%d) of %v of %d = %d, not %d", names[which], i, row, n, err, want)
	}
	return behind
}

// rows are all rows of numbers below n, each at most once.
func rows(n int) [][]int {
	l := [][]int{nil}
	for at := 0; at < len(l); at++ {
		for i := range n {
			if !slices.Contains(l[at], i) {
				l = append(l, append(slices.Clone(l[at]), i))
			}
		}
	}
	return l
}

func TestNew(t *testing.T) {
	for _, n := range []int{math.MinInt, math.MinInt + 1, -most, -1, 0, most + 1, most + 2, 65536, math.MaxInt - 1, math.MaxInt} {
		if c, err := chain.New(n); c != nil || err != api.ErrArg {
			t.Errorf("New(%d) = %v, %d", n, c, err)
		}
	}
	for _, n := range []int{1, 2, 3, 8, 64, 65, most - 1, most} {
		same(t, made(t, n), n, nil, "a new chain")
	}
}

func TestExamples(t *testing.T) {
	c := made(t, 3)
	for _, i := range []int{1, 2, 1} {
		if err := c.Front(i); err != api.OK {
			t.Fatalf("Front(%d) = %d", i, err)
		}
	}
	same(t, c, 3, []int{1, 2}, "Front of 1, 2, 1")
	for _, x := range []struct {
		which, i int
		err      api.Errno
		row      []int
	}{
		{front, 1, api.OK, []int{1, 2}}, {back, 2, api.OK, []int{1, 2}}, {back, 1, api.OK, []int{2, 1}},
		{front, 0, api.OK, []int{0, 2, 1}}, {back, 2, api.OK, []int{0, 1, 2}}, {front, 1, api.OK, []int{1, 0, 2}},
		{cut, 0, api.OK, []int{1, 2}}, {cut, 0, api.ErrNone, []int{1, 2}}, {back, 0, api.OK, []int{1, 2, 0}},
		{cut, 0, api.OK, []int{1, 2}}, {cut, 1, api.OK, []int{2}}, {front, 2, api.OK, []int{2}}, {back, 2, api.OK, []int{2}},
		{cut, 2, api.OK, nil}, {cut, 2, api.ErrNone, nil}, {cut, 3, api.ErrRange, nil}, {cut, -1, api.ErrRange, nil},
		{back, 0, api.OK, []int{0}}, {front, 3, api.ErrRange, []int{0}}, {back, -1, api.ErrRange, []int{0}},
	} {
		if err := call(c, x.which, x.i); err != x.err {
			t.Errorf("%s(%d) = %d, not %d", names[x.which], x.i, err, x.err)
		}
		same(t, c, 3, x.row, names[x.which])
	}
}

// TestEachCallOnEachRow does each single call on all rows of a few places.
func TestEachCallOnEachRow(t *testing.T) {
	for n := 1; n <= 5; n++ {
		for _, row := range rows(n) {
			for which := range calls {
				for i := range n {
					c := made(t, n, row...)
					same(t, c, n, row, "a row")
					same(t, c, n, do(t, c, n, row, which, i), names[which])
				}
			}
		}
	}
}

// TestAllShortWays does all short lists of calls, wrong ones among them.
func TestAllShortWays(t *testing.T) {
	const n, length = 3, 4
	numbers := []int{0, 1, 2, 3, -1}
	each := calls * len(numbers)
	all := 1
	for range length {
		all *= each
	}
	for way := range all {
		c, row := made(t, n), []int(nil)
		for range length {
			row = do(t, c, n, row, way%calls, numbers[way/calls%len(numbers)])
			way /= each
		}
		same(t, c, n, row, "a short way")
	}
}

func TestNoSuchNumber(t *testing.T) {
	for _, n := range []int{1, 2, 5, 64, most - 1, most} {
		row := []int{n - 1}
		if n > 2 {
			row = []int{n - 2, 0, n - 1}
		}
		c := made(t, n, row...)
		for _, i := range beside(n) {
			if i >= 0 && i < n {
				continue
			}
			for which := range calls {
				if err := call(c, which, i); err != api.ErrRange {
					t.Errorf("%s(%d) of %d places = %d", names[which], i, n, err)
				}
			}
		}
		same(t, c, n, row, "no such number")
	}
}

func TestManyCalls(t *testing.T) {
	for _, n := range []int{1, 2, 3, 7, 64, 200} {
		chance := rand.New(rand.NewSource(int64(n)))
		c, row := made(t, n), []int(nil)
		for step := range 3000 {
			// By turns the row grows and falls.
			which := chance.Intn(calls)
			if chance.Intn(2) == 0 {
				which = []int{front, cut}[step/500%2]
			}
			row = do(t, c, n, row, which, chance.Intn(n+2)-1)
			same(t, c, n, row, "many calls")
		}
	}
}

// TestOthersStay: a call on one number leaves all others in the row as they stood to each other, and none is there twice.
func TestOthersStay(t *testing.T) {
	const n = 40
	chance := rand.New(rand.NewSource(5))
	c := made(t, n)
	for range 4000 {
		i, was := chance.Intn(n), c.Row()
		call(c, chance.Intn(calls), i)
		is := c.Row()
		if !slices.Equal(without(was, i), without(is, i)) {
			t.Fatalf("a call on %d: %v became %v", i, was, is)
		}
		slices.Sort(is)
		if len(slices.Compact(slices.Clone(is))) != len(is) {
			t.Fatalf("a call on %d: %v has one twice", i, is)
		}
	}
}

// TestFullRows fills chains to the last number, from the front and from the back, turns them round and empties them.
func TestFullRows(t *testing.T) {
	for _, n := range []int{1, 2, 63, 64, 65, 1000, most - 1, most} {
		rising := make([]int, n)
		for i := range rising {
			rising[i] = i
		}
		falling := slices.Clone(rising)
		slices.Reverse(falling)
		c := made(t, n, rising...)
		same(t, c, n, rising, "full from the back")
		for _, i := range rising {
			c.Front(i)
		}
		same(t, c, n, falling, "full from the front")
		for _, i := range rising {
			c.Back(i)
		}
		same(t, c, n, rising, "turned round")
		for at := range rising {
			i, ok := c.Last()
			if i != n-1-at || !ok || c.Cut(i) != api.OK || c.Has(i) || c.Len() != i {
				t.Fatalf("Last of %d, of which %d were cut: %d, %v", n, at, i, ok)
			}
		}
		same(t, c, n, nil, "emptied")
		for _, i := range rising {
			if err := c.Front(i); err != api.OK {
				t.Fatalf("Front(%d) of %d = %d", i, n, err)
			}
		}
		same(t, c, n, falling, "filled anew")
	}
}

// TestRowIsTheAskers: a row that was told is new memory, and stays as it was told.
func TestRowIsTheAskers(t *testing.T) {
	c := made(t, 6, 4, 2, 0)
	one, other := c.Row(), c.Row()
	c.Front(5)
	if !slices.Equal(one, []int{4, 2, 0}) {
		t.Errorf("a row told ahead of a call became %v", one)
	}
	for i := range one {
		one[i] = 1
	}
	_ = append(one, 3)
	if !slices.Equal(other, []int{4, 2, 0}) {
		t.Errorf("a row became %v when another was changed", other)
	}
	same(t, c, 6, []int{5, 4, 2, 0}, "a chain whose row was changed")
}

// TestNothingInCommon: two chains have nothing to do with each other.
func TestNothingInCommon(t *testing.T) {
	one, other := made(t, 4, 3, 1), made(t, 4)
	same(t, other, 4, nil, "a second chain")
	other.Front(1)
	other.Front(0)
	one.Cut(3)
	same(t, one, 4, []int{1}, "the first chain")
	same(t, other, 4, []int{0, 1}, "the second chain")
}

func TestNobodyMadeIt(t *testing.T) {
	for _, c := range []*chain.Chain{nil, {}, new(chain.Chain)} {
		for _, i := range append(beside(3), 0, 1, 2) {
			for which := range calls {
				if err := call(c, which, i); err != api.ErrNil {
					t.Errorf("%v: %s(%d) = %d", c, names[which], i, err)
				}
			}
			if c.Has(i) {
				t.Errorf("%v: Has(%d)", c, i)
			}
		}
		if i, ok := c.First(); i != 0 || ok {
			t.Errorf("%v: First %d, %v", c, i, ok)
		}
		if i, ok := c.Last(); i != 0 || ok {
			t.Errorf("%v: Last %d, %v", c, i, ok)
		}
		if c.Len() != 0 || len(c.Row()) != 0 {
			t.Errorf("%v: Len %d, Row %v", c, c.Len(), c.Row())
		}
	}
}
