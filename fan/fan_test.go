package fan_test

import (
	"bytes"
	"fmt"
	"math"
	"math/rand"
	"slices"
	"strings"
	"testing"

	"sluicegate/api"
	"sluicegate/fan"
	"sluicegate/lex"
)

// keys are in order; byte by byte they stand otherwise than by length, by signed bytes, or without their last noughts.
var keys = []string{"", "\x00", "a", "a\x00", "ab", "b", "\x7f", "\x80", "\xff", "\xff\xff"}

// some are keys of which all pivots are gone through.
var some = []string{"", "a", "a\x00", "b", "\xff"}

// ends are those of the spans that are gone through: pivots, keys right behind them, and keys between.
var ends = []string{"", "\x00", "a", "a\x00", "ab", "b", "\xff", "\xff\x00"}

// span is the keys from lo on below hi.
func span(lo, hi string) api.Span { return api.Span{Lo: lo, Hi: hi} }

// from is the keys from lo on.
func from(lo string) api.Span { return api.Span{Lo: lo, Top: true} }

// sets are all lists of some keys in order, each with that key or without it.
func sets(of []string) [][]string {
	all := [][]string{nil}
	for _, key := range of {
		for _, l := range all {
			all = append(all, append(slices.Clone(l), key))
		}
	}
	return all
}

// rows are all lists of some keys, up to a length, in any order and any of them several times.
func rows(of []string, most int) [][]string {
	all, last := [][]string{nil}, [][]string{nil}
	for range most {
		var next [][]string
		for _, row := range last {
			for _, key := range of {
				next = append(next, append(slices.Clone(row), key))
			}
		}
		all, last = append(all, next...), next
	}
	return all
}

// spans are all spans with those ends, empty ones, upside-down ones, and Top ones with a Hi, too.
func spans(ends []string) []api.Span {
	var all []api.Span
	for _, lo := range ends {
		for _, hi := range ends {
			all = append(all, span(lo, hi), api.Span{Lo: lo, Hi: hi, Top: true})
		}
	}
	return all
}

// order is how two keys stand, byte by byte.
func order(a, b string) int { return bytes.Compare([]byte(a), []byte(b)) }

// has tells whether a span has a key, as the document words it.
func has(s api.Span, key string) bool {
	return order(key, s.Lo) >= 0 && (s.Top || order(key, s.Hi) < 0)
}

// right tells whether pivots are right for a span, as the document words it.
func right(pivots []string, s api.Span) bool {
	for i, a := range pivots {
		for _, b := range pivots[i+1:] {
			if order(a, b) >= 0 {
				return false
			}
		}
		if !has(s, a) || a == s.Lo {
			return false
		}
	}
	return true
}

// way is how many pivots are not behind a key.
func way(pivots []string, key string) int {
	n := 0
	for _, pivot := range pivots {
		if order(pivot, key) <= 0 {
			n++
		}
	}
	return n
}

// pieces is the span of the keys of a kid that s has, end by end; ok, if there are any.
func pieces(pivots []string, i int, s api.Span) (api.Span, bool) {
	if i < 0 || i > len(pivots) {
		return api.Span{}, false
	}
	kid := api.Span{Lo: s.Lo, Hi: s.Hi, Top: s.Top}
	if kid.Top {
		kid.Hi = ""
	}
	if i > 0 && order(pivots[i-1], kid.Lo) > 0 {
		kid.Lo = pivots[i-1]
	}
	if i < len(pivots) && (kid.Top || order(pivots[i], kid.Hi) < 0) {
		kid.Hi, kid.Top = pivots[i], false
	}
	// A span that has any key has its Lo.
	if !has(kid, kid.Lo) {
		return api.Span{}, false
	}
	return kid, true
}

// list is pivots that are told as a text, short enough to read.
type list []string

// String is that text.
func (l list) String() string {
	return fmt.Sprintf("(%q, %d pivots)", []string(l[:min(len(l), 20)]), len(l))
}

// want holds a list against that which it must be.
func want(t *testing.T, got, must []string, format string, of ...any) {
	t.Helper()
	if !slices.Equal(got, must) {
		t.Errorf("%s = %v, not %v", fmt.Sprintf(format, of...), list(got), list(must))
	}
}

// random is pivots, n of them.
func random(r *rand.Rand, n int) []string {
	met := map[string]bool{}
	var l []string
	for len(l) < n {
		if key := randomKey(r); !met[key] {
			met[key], l = true, append(l, key)
		}
	}
	slices.SortFunc(l, order)
	return l
}

// randomKey is one of some thousands of keys, many of which begin alike.
func randomKey(r *rand.Rand) string {
	return strings.Repeat("k", r.Intn(3)) + string([]byte{byte(r.Intn(256)), byte(r.Intn(4) * 85)})[r.Intn(2):]
}

func TestRight(t *testing.T) {
	long := strings.Repeat("k", 5000)
	for _, x := range []struct {
		pivots []string
		s      api.Span
		must   bool
	}{
		{nil, lex.All(), true}, {[]string{}, lex.All(), true}, {nil, span("a", "c"), true}, {nil, span("c", "a"), true}, {nil, api.Span{}, true},
		{[]string{"b", "d"}, lex.All(), true}, {[]string{"b", "d"}, span("a", "e"), true}, {[]string{"b", "d"}, span("a", "d\x00"), true}, {[]string{"b", "d"}, from("a\xff"), true},
		{[]string{"b", "d"}, span("a", "d"), false}, {[]string{"b", "d"}, span("b", "e"), false}, {[]string{"b", "d"}, span("b\x00", "e"), false}, {[]string{"b", "d"}, span("c", "e"), false},
		{[]string{"b", "d"}, span("a", "c"), false}, {[]string{"b", "d"}, from("b"), false}, {[]string{"b", "d"}, from("e"), false}, {[]string{"b", "d"}, span("", "a"), false},
		{[]string{"b", "d"}, span("e", "a"), false}, {[]string{"b", "d"}, api.Span{}, false},
		{[]string{"b"}, span("a", "c"), true}, {[]string{"b"}, span("a", "b"), false}, {[]string{"b"}, span("b", "c"), false}, {[]string{"b"}, span("b", "b"), false}, {[]string{"b"}, span("c", "a"), false},
		{[]string{"b"}, span("a\xff\xff", "b\x00"), true}, {[]string{"b\x00"}, span("b", "b\x01"), true}, {[]string{"b\x00"}, from("b"), true},
		{[]string{""}, lex.All(), false}, {[]string{""}, span("", "a"), false}, {[]string{"", "a"}, lex.All(), false}, {[]string{"\x00"}, lex.All(), true}, {[]string{"\x00", "a"}, span("", "b"), true},
		// Where a span is Top, its Hi counts for nothing.
		{[]string{"b", "d"}, api.Span{Lo: "a", Hi: "c", Top: true}, true}, {[]string{"b", "d"}, api.Span{Lo: "b", Hi: "c", Top: true}, false}, {[]string{"\xff\xff"}, api.Span{Hi: "a", Top: true}, true},
		{[]string{"d", "b"}, lex.All(), false}, {[]string{"b", "b"}, lex.All(), false}, {[]string{"a", "b", "d", "c"}, lex.All(), false}, {[]string{"b", "a", "c", "d"}, lex.All(), false}, {[]string{"a", "c", "b", "d"}, lex.All(), false},
		{[]string{"a", "b", "b", "c"}, lex.All(), false}, {[]string{"a", "b", "c", "c"}, lex.All(), false}, {[]string{"a", "b", "c", "a"}, lex.All(), false}, {[]string{"b", "c", "a", "d"}, lex.All(), false}, {[]string{"b", "c", ""}, lex.All(), false},
		{[]string{"a", "a\x00"}, lex.All(), true}, {[]string{"a\x00", "a"}, lex.All(), false}, {[]string{"ab", "b"}, lex.All(), true}, {[]string{"b", "ab"}, lex.All(), false}, {[]string{"9", "10"}, lex.All(), false}, {[]string{"10", "9"}, lex.All(), true},
		{[]string{"\x7f", "\x80"}, lex.All(), true}, {[]string{"\x80", "\x7f"}, lex.All(), false}, {[]string{"Z", "a"}, lex.All(), true},
		{[]string{long + "a", long + "b"}, span(long, long+"c"), true}, {[]string{long + "a", long + "b"}, span(long, long+"b"), false}, {[]string{long + "b", long + "a"}, span(long, long+"c"), false},
	} {
		if got := fan.Right(x.pivots, x.s); got != x.must {
			t.Errorf("Right(%v, %#v) = %v", list(x.pivots), x.s, got)
		}
	}
}

func TestRightOfAllSmallLists(t *testing.T) {
	all := spans(ends)
	for _, pivots := range append(rows(some, 4), sets(keys)...) {
		for _, s := range all {
			if got := fan.Right(pivots, s); got != right(pivots, s) {
				t.Fatalf("Right(%v, %#v) = %v", list(pivots), s, got)
			}
		}
	}
}

// One pivot that stands wrong is enough, wherever it stands.
func TestRightOfGreatLists(t *testing.T) {
	r := rand.New(rand.NewSource(21))
	for _, n := range []int{2, 3, 62, 63, 64, 1000} {
		l := random(r, n+1)
		// The first key is the span's Lo.
		s, l := span(l[0], lex.Next(l[n])), l[1:]
		if !fan.Right(l, s) || !fan.Right(l, from(s.Lo)) {
			t.Errorf("Right of %d pivots", n)
		}
		if fan.Right(l, span(s.Lo, l[n-1])) || fan.Right(l, span(l[0], s.Hi)) {
			t.Errorf("Right of %d pivots, one of them at an end", n)
		}
		for i := range l {
			for _, key := range []string{s.Lo, s.Hi, l[(i+1)%n], l[(i+n-1)%n]} {
				odd := slices.Clone(l)
				odd[i] = key
				if fan.Right(odd, s) {
					t.Errorf("Right of %d pivots, %q at place %d", n, key, i)
				}
			}
		}
	}
}

func TestWay(t *testing.T) {
	for _, x := range []struct {
		pivots []string
		key    string
		must   int
	}{
		{[]string{"b", "d"}, "a", 0}, {[]string{"b", "d"}, "b", 1}, {[]string{"b", "d"}, "c", 1}, {[]string{"b", "d"}, "d", 2},
		{[]string{"b", "d"}, "", 0}, {[]string{"b", "d"}, "a\xff", 0}, {[]string{"b", "d"}, "b\x00", 1}, {[]string{"b", "d"}, "cz", 1}, {[]string{"b", "d"}, "d\x00", 2}, {[]string{"b", "d"}, "\xff", 2},
		{nil, "", 0}, {nil, "a", 0}, {[]string{}, "\xff", 0},
		{[]string{""}, "", 1}, {[]string{""}, "a", 1}, {[]string{"", "\x00"}, "", 1}, {[]string{"", "\x00"}, "\x00", 2}, {[]string{"\x00"}, "", 0}, {[]string{"\x00"}, "\x00", 1},
		{[]string{"a", "a\x00"}, "a", 1}, {[]string{"a", "a\x00"}, "a\x00", 2}, {[]string{"ab", "b"}, "abc", 1}, {[]string{"ab", "b"}, "a", 0}, {[]string{"10", "9"}, "2", 1},
		{[]string{"\x7f", "\x80"}, "\x7f", 1}, {[]string{"\x7f", "\x80"}, "\x7f\xff", 1}, {[]string{"\x7f", "\x80"}, "\x80", 2}, {[]string{"\x7f", "\x80"}, "\xff", 2}, {[]string{"\x7f", "\x80"}, "a", 0},
	} {
		if got := fan.Way(x.pivots, x.key); got != x.must {
			t.Errorf("Way(%v, %q) = %d, not %d", list(x.pivots), x.key, got, x.must)
		}
	}
}

// ways holds Way of keys against how many pivots are not behind them.
func ways(t *testing.T, pivots, keys []string) {
	t.Helper()
	for _, key := range keys {
		if got := fan.Way(pivots, key); got != way(pivots, key) {
			t.Errorf("Way(%v, %q) = %d, not %d", list(pivots), key, got, way(pivots, key))
		}
	}
}

func TestWayOfAllSmallLists(t *testing.T) {
	of := slices.Clone(keys)
	for _, key := range keys {
		of = append(of, lex.Next(key))
	}
	for _, pivots := range sets(keys) {
		ways(t, pivots, of)
		if t.Failed() {
			t.FailNow()
		}
	}
}

func TestWayOfGreatLists(t *testing.T) {
	r := rand.New(rand.NewSource(22))
	for _, n := range []int{1, 2, 7, 8, 62, 63, 64, 1000} {
		pivots := random(r, n)
		of := append(random(r, 300), "", "\xff\xff\xff")
		for _, pivot := range pivots {
			of = append(of, pivot, lex.Next(pivot), pivot[:len(pivot)-1])
		}
		ways(t, pivots, of)
	}
}

func TestSpan(t *testing.T) {
	bd, none := []string{"b", "d"}, api.Span{}
	for _, x := range []struct {
		pivots []string
		i      int
		s      api.Span
		must   api.Span
		ok     bool
	}{
		{bd, 0, lex.All(), span("", "b"), true}, {bd, 1, lex.All(), span("b", "d"), true}, {bd, 2, lex.All(), from("d"), true},
		{bd, -1, lex.All(), none, false}, {bd, 3, lex.All(), none, false}, {bd, math.MinInt, lex.All(), none, false}, {bd, math.MaxInt, lex.All(), none, false},
		{bd, 0, span("a", "e"), span("a", "b"), true}, {bd, 1, span("a", "e"), span("b", "d"), true}, {bd, 2, span("a", "e"), span("d", "e"), true},
		{bd, 0, span("b", "d"), none, false}, {bd, 1, span("b", "d"), span("b", "d"), true}, {bd, 2, span("b", "d"), none, false},
		{bd, 0, span("b", "d\x00"), none, false}, {bd, 2, span("b", "d\x00"), span("d", "d\x00"), true}, {bd, 0, span("a\xff", "c"), span("a\xff", "b"), true},
		{bd, 0, span("c", "cc"), none, false}, {bd, 1, span("c", "cc"), span("c", "cc"), true}, {bd, 2, span("c", "cc"), none, false},
		{bd, 0, from("c"), none, false}, {bd, 1, from("c"), span("c", "d"), true}, {bd, 2, from("c"), from("d"), true}, {bd, 2, from("x"), from("x"), true}, {bd, 1, from("x"), none, false},
		{bd, 0, span("", "a"), span("", "a"), true}, {bd, 1, span("", "a"), none, false}, {bd, 1, span("", "b"), none, false}, {bd, 1, span("", "b\x00"), span("b", "b\x00"), true},
		{nil, 0, lex.All(), lex.All(), true}, {nil, 0, span("a", "c"), span("a", "c"), true}, {nil, 0, from("a"), from("a"), true}, {[]string{}, 0, lex.All(), lex.All(), true},
		{nil, 1, lex.All(), none, false}, {nil, -1, lex.All(), none, false}, {[]string{}, 1, lex.All(), none, false}, {nil, math.MinInt, lex.All(), none, false},
		// A span without keys, and a kid without keys.
		{bd, 0, none, none, false}, {bd, 1, span("d", "b"), none, false}, {bd, 1, span("c", "c"), none, false}, {bd, 0, span("z", "a"), none, false}, {bd, 2, span("z", "a"), none, false}, {nil, 0, none, none, false}, {nil, 0, span("b", "a"), none, false},
		{[]string{"", "a"}, 0, lex.All(), none, false}, {[]string{"", "a"}, 1, lex.All(), span("", "a"), true}, {[]string{""}, 1, lex.All(), lex.All(), true}, {[]string{"\x00"}, 0, lex.All(), span("", "\x00"), true},
		// Where a span is Top, its Hi counts for nothing, and is not told.
		{bd, 2, api.Span{Lo: "a", Hi: "c", Top: true}, from("d"), true}, {bd, 1, api.Span{Lo: "c", Hi: "a", Top: true}, span("c", "d"), true}, {nil, 0, api.Span{Lo: "b", Hi: "a", Top: true}, from("b"), true}, {bd, 2, api.Span{Lo: "x", Hi: "y", Top: true}, from("x"), true},
		// The order of bytes is that of numbers from 0 to 255.
		{[]string{"\x7f", "\x80"}, 1, lex.All(), span("\x7f", "\x80"), true}, {[]string{"\x7f", "\x80"}, 2, span("a", "\xff"), span("\x80", "\xff"), true}, {[]string{"ab", "b"}, 1, span("aa", "az"), span("ab", "az"), true},
	} {
		if got, ok := fan.Span(x.pivots, x.i, x.s); got != x.must || ok != x.ok {
			t.Errorf("Span(%v, %d, %#v) = %#v, %v, not %#v, %v", list(x.pivots), x.i, x.s, got, ok, x.must, x.ok)
		}
	}
}

// places are all places of a list of so many, and wrong ones.
func places(n int) []int {
	all := []int{math.MinInt, -2, -1, n + 1, n + 2, math.MaxInt}
	for i := range n + 1 {
		all = append(all, i)
	}
	return all
}

// parted holds each kid's Span against its ends and its keys, and all of them against each other (P12.4).
func parted(t *testing.T, pivots []string, s api.Span, keys []string) {
	t.Helper()
	for _, i := range places(len(pivots)) {
		got, ok := fan.Span(pivots, i, s)
		if must, is := pieces(pivots, i, s); got != must || ok != is {
			t.Errorf("Span(%v, %d, %#v) = %#v, %v, not %#v, %v", list(pivots), i, s, got, ok, must, is)
		}
		if meant := i >= 0 && i <= len(pivots) && right(pivots, s) && has(s, s.Lo); meant && !ok {
			t.Errorf("%v are right for %#v, but kid %d has no Span", list(pivots), s, i)
		}
		for _, key := range keys {
			its := ok && lex.In(got, key)
			if its != (has(s, key) && fan.Way(pivots, key) == i) {
				t.Errorf("Span(%v, %d, %#v) = %#v, %v, at %q", list(pivots), i, s, got, ok, key)
			}
		}
	}
}

func TestSpanOfAllSmallLists(t *testing.T) {
	of := slices.Clone(ends)
	for _, key := range some {
		of = append(of, lex.Next(key))
	}
	for _, pivots := range sets(some) {
		for _, s := range spans(ends) {
			parted(t, pivots, s, of)
		}
		if t.Failed() {
			t.FailNow()
		}
	}
}

func TestSpanOfGreatLists(t *testing.T) {
	r := rand.New(rand.NewSource(23))
	for _, n := range []int{1, 2, 7, 8, 62, 63, 64} {
		pivots := random(r, n)
		of := append(random(r, 60), pivots...)
		for _, s := range []api.Span{lex.All(), from(pivots[0]), span("", lex.Next(pivots[n-1])), span(pivots[0][:len(pivots[0])-1], pivots[n-1])} {
			parted(t, pivots, s, of)
		}
		for range 20 {
			lo, hi := randomKey(r), randomKey(r)
			parted(t, pivots, span(lo, hi), of)
			parted(t, pivots, span(min(lo, hi), max(lo, hi)), of)
			parted(t, pivots, api.Span{Lo: pivots[r.Intn(n)], Hi: hi, Top: r.Intn(2) == 0}, of)
		}
	}
}

// Each key of a span is in the Span of just one kid, its way; of pivots that are right for a span that has keys, each kid has one.
func TestEachOneWay(t *testing.T) {
	met := 0
	for _, pivots := range sets(some) {
		for _, s := range spans(ends) {
			for _, key := range keys {
				var in []int
				for i := range len(pivots) + 1 {
					if kid, ok := fan.Span(pivots, i, s); ok && lex.In(kid, key) {
						in = append(in, i)
					}
				}
				if lex.In(s, key) && !slices.Equal(in, []int{fan.Way(pivots, key)}) || !lex.In(s, key) && in != nil {
					t.Fatalf("%q of %#v is in the Spans %v of %v", key, s, in, list(pivots))
				}
			}
			if !fan.Right(pivots, s) || lex.Empty(s) {
				continue
			}
			met++
			for i := range len(pivots) + 1 {
				if kid, ok := fan.Span(pivots, i, s); !ok || lex.Empty(kid) {
					t.Fatalf("kid %d of %v has no Span of %#v", i, list(pivots), s)
				}
			}
		}
	}
	if met < 100 {
		t.Errorf("no more than %d right ones", met)
	}
}

// Below a kid the same holds again: pivots that are right for its Span part just its keys.
func TestEachOneWayBelowAKid(t *testing.T) {
	upper, lower := []string{"b", "d"}, []string{"bb", "c"}
	kid, ok := fan.Span(upper, 1, span("a", "z"))
	if !ok || !fan.Right(lower, kid) {
		t.Fatal(kid, ok)
	}
	for i, must := range []api.Span{span("b", "bb"), span("bb", "c"), span("c", "d")} {
		if got, ok := fan.Span(lower, i, kid); got != must || !ok {
			t.Errorf("Span(%v, %d, %#v) = %#v, %v", lower, i, kid, got, ok)
		}
	}
}

func TestInsert(t *testing.T) {
	bd := []string{"b", "d"}
	for _, x := range []struct {
		pivots []string
		i      int
		pivot  string
		must   []string
	}{
		{bd, 0, "a", []string{"a", "b", "d"}}, {bd, 1, "c", []string{"b", "c", "d"}}, {bd, 2, "e", []string{"b", "d", "e"}},
		{bd, 3, "e", bd}, {bd, 4, "e", bd}, {bd, -1, "a", bd}, {bd, math.MaxInt, "e", bd}, {bd, math.MinInt, "a", bd},
		{nil, 0, "a", []string{"a"}}, {nil, 0, "", []string{""}}, {[]string{}, 0, "a", []string{"a"}}, {nil, 1, "a", nil}, {nil, -1, "a", nil}, {nil, math.MaxInt, "a", nil},
		{[]string{"b"}, 0, "", []string{"", "b"}}, {[]string{""}, 1, "\x00", []string{"", "\x00"}}, {[]string{"b"}, 2, "c", []string{"b"}},
		// The place is what is asked, wherever the key belongs.
		{bd, 0, "z", []string{"z", "b", "d"}}, {bd, 1, "a", []string{"b", "a", "d"}}, {bd, 2, "b", []string{"b", "d", "b"}}, {bd, 0, "b", []string{"b", "b", "d"}}, {bd, 3, "b", bd},
	} {
		want(t, fan.Insert(x.pivots, x.i, x.pivot), x.must, "Insert(%v, %d, %q)", list(x.pivots), x.i, x.pivot)
	}
}

func TestRemove(t *testing.T) {
	bdf := []string{"b", "d", "f"}
	for _, x := range []struct {
		pivots []string
		i      int
		must   []string
	}{
		{bdf, 0, []string{"d", "f"}}, {bdf, 1, []string{"b", "f"}}, {bdf, 2, []string{"b", "d"}},
		{bdf, 3, bdf}, {bdf, 4, bdf}, {bdf, -1, bdf}, {bdf, math.MaxInt, bdf}, {bdf, math.MinInt, bdf},
		{[]string{"b"}, 0, nil}, {[]string{"b"}, 1, []string{"b"}}, {[]string{"b"}, -1, []string{"b"}}, {[]string{""}, 0, nil}, {[]string{"", "b"}, 0, []string{"b"}}, {[]string{"", "b"}, 1, []string{""}},
		{nil, 0, nil}, {nil, -1, nil}, {nil, 1, nil}, {[]string{}, 0, nil}, {nil, math.MinInt, nil}, {nil, math.MaxInt, nil},
	} {
		want(t, fan.Remove(x.pivots, x.i), x.must, "Remove(%v, %d)", list(x.pivots), x.i)
	}
}

// with is pivots with one more at a place, pivot by pivot.
func with(pivots []string, i int, pivot string) []string {
	var l []string
	for at := range len(pivots) + 1 {
		if at == i {
			l = append(l, pivot)
		}
		if at < len(pivots) {
			l = append(l, pivots[at])
		}
	}
	return l
}

// without is pivots but that at a place.
func without(pivots []string, i int) []string {
	var l []string
	for at, pivot := range pivots {
		if at != i {
			l = append(l, pivot)
		}
	}
	return l
}

// changed holds Insert and Remove at all places against what they must be, and a Remove of what was put in against what was there.
func changed(t *testing.T, pivots []string, pivot string) {
	t.Helper()
	n := len(pivots)
	for _, i := range places(n) {
		more := fan.Insert(pivots, i, pivot)
		want(t, more, with(pivots, i, pivot), "Insert(%v, %d, %q)", list(pivots), i, pivot)
		want(t, fan.Remove(pivots, i), without(pivots, i), "Remove(%v, %d)", list(pivots), i)
		if i >= 0 && i <= n {
			want(t, fan.Remove(more, i), pivots, "Remove(%v, %d)", list(more), i)
		}
	}
}

func TestInsertAndRemoveOfAllLists(t *testing.T) {
	for _, pivots := range sets(keys) {
		for _, pivot := range []string{"", "aa", "\xff"} {
			changed(t, pivots, pivot)
		}
		if t.Failed() {
			t.FailNow()
		}
	}
	r := rand.New(rand.NewSource(24))
	for _, n := range []int{62, 63, 64, 300} {
		changed(t, random(r, n), randomKey(r))
	}
}

// A pivot that is put in at its way keeps pivots right, and parts just the kid of that way.
func TestInsertAtItsWay(t *testing.T) {
	r := rand.New(rand.NewSource(25))
	var pivots []string
	for len(pivots) < 200 {
		key := randomKey(r)
		i := fan.Way(pivots, key)
		kid, ok := fan.Span(pivots, i, lex.All())
		if !ok || !lex.In(kid, key) {
			t.Fatalf("%q is not in the Span of its way, %d: %#v, %v", key, i, kid, ok)
		}
		if key == kid.Lo {
			continue
		}
		more := fan.Insert(pivots, i, key)
		if !fan.Right(more, lex.All()) {
			t.Fatalf("Insert(%v, %d, %q) is not right", list(pivots), i, key)
		}
		below, _ := fan.Span(more, i, lex.All())
		above, _ := fan.Span(more, i+1, lex.All())
		if below != span(kid.Lo, key) || above != (api.Span{Lo: key, Hi: kid.Hi, Top: kid.Top}) {
			t.Fatalf("%#v, parted at %q, is %#v and %#v", kid, key, below, above)
		}
		pivots = more
	}
	for len(pivots) > 0 {
		i := r.Intn(len(pivots))
		below, _ := fan.Span(pivots, i, lex.All())
		above, _ := fan.Span(pivots, i+1, lex.All())
		pivots = fan.Remove(pivots, i)
		if kid, ok := fan.Span(pivots, i, lex.All()); !ok || kid != (api.Span{Lo: below.Lo, Hi: above.Hi, Top: above.Top}) {
			t.Fatalf("%#v and %#v, joined, are %#v, %v", below, above, kid, ok)
		}
	}
}

// room is a list in the midst of memory that has more, and that whole memory.
func room(l []string) (part, all []string) {
	all = append([]string{"ahead"}, l...)
	all = append(all, "spare", "room", "")
	return all[1 : 1+len(l)], all
}

// spoil changes all that a list's asker may change, its spare room included.
func spoil(l []string) {
	l = l[:cap(l)]
	for i := range l {
		l[i] = "spoilt"
	}
}

// Nothing that is handed in changes in a call, nor when what was told is changed; nor does what was told change with what was handed in.
func TestMemory(t *testing.T) {
	long := random(rand.New(rand.NewSource(26)), 40)
	for _, l := range [][]string{nil, long[:1], long[:2], long[:3], {"", "b", "d"}, long} {
		n := len(l)
		none := func(pivots []string) []string {
			fan.Right(pivots, lex.All())
			fan.Way(pivots, "b")
			fan.Span(pivots, 0, lex.All())
			return nil
		}
		apart(t, "Right, Way, Span", l, none)
		for _, i := range places(n) {
			apart(t, fmt.Sprintf("Insert at %d", i), l, func(pivots []string) []string { return fan.Insert(pivots, i, "new") })
			apart(t, fmt.Sprintf("Remove of %d", i), l, func(pivots []string) []string { return fan.Remove(pivots, i) })
		}
	}
}

// apart holds what a call was handed, and what it told, against what both were, while the other one is spoilt.
func apart(t *testing.T, name string, l []string, call func(pivots []string) []string) {
	t.Helper()
	mine, all := room(l)
	was := slices.Clone(all)
	told := call(mine)
	toldWas := slices.Clone(told)
	want(t, all, was, "%s of %v: what was handed in", name, list(l))
	spoil(told)
	want(t, all, was, "%s of %v: what was handed in, when what was told was changed,", name, list(l))
	again := call(mine)
	want(t, again, toldWas, "%s of %v, once more", name, list(l))
	spoil(mine)
	want(t, again, toldWas, "%s of %v: what was told, when what was handed in was changed,", name, list(l))
}

// Of lists that don't rise it is free what is told, but each call ends, and nothing handed in changes.
func TestOtherListsEnd(t *testing.T) {
	lists := rows([]string{"", "a", "b", "\xff"}, 4)
	back := random(rand.New(rand.NewSource(27)), 300)
	slices.Reverse(back)
	lists = append(lists, back, slices.Concat(back, back), slices.Repeat(back[:1], 600))
	for _, l := range lists {
		odd, all := room(l)
		was := slices.Clone(all)
		for _, key := range some {
			fan.Way(odd, key)
		}
		for _, i := range places(min(len(l), 6)) {
			fan.Insert(odd, i, "n")
			fan.Remove(odd, i)
			for _, s := range spans(some) {
				fan.Span(odd, i, s)
			}
		}
		want(t, all, was, "what was handed in")
	}
}
