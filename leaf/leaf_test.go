package leaf_test

import (
	"bytes"
	"fmt"
	"maps"
	"math"
	"math/rand"
	"slices"
	"strings"
	"testing"

	"sluicegate/api"
	"sluicegate/leaf"
)

// keys are in order; byte by byte they stand otherwise than by length, by signed bytes, or without their last noughts.
var keys = []string{"", "\x00", "a", "a\x00", "ab", "b", "\x7f", "\x80", "\xff", "\xff\xff"}

// some are keys of which all leaves are gone through.
var some = []string{"", "a", "a\x00", "b", "\xff"}

// pair is a key with its value.
func pair(key, val string) api.Pair { return api.Pair{Key: key, Val: val} }

// put is the message that a key has a value.
func put(key, val string) api.Msg { return api.Msg{Key: key, Val: val} }

// del is the message that a key has no value.
func del(key string) api.Msg { return api.Msg{Key: key, Del: true} }

// span is the keys from lo on below hi.
func span(lo, hi string) api.Span { return api.Span{Lo: lo, Hi: hi} }

// from is the keys from lo on.
func from(lo string) api.Span { return api.Span{Lo: lo, Top: true} }

// leaves are all leaves of some keys, each with no pair, one of a value or one of none.
func leaves(of []string, mark string) [][]api.Pair {
	all := [][]api.Pair{nil}
	for _, key := range of {
		for _, l := range all {
			for _, val := range []string{mark, ""} {
				all = append(all, append(slices.Clone(l), pair(key, val)))
			}
		}
	}
	return all
}

// sets are all leaves of some keys, each with no pair or one.
func sets(of []string) [][]api.Pair {
	all := [][]api.Pair{nil}
	for i, key := range of {
		for _, l := range all {
			all = append(all, append(slices.Clone(l), pair(key, strings.Repeat("v", i%3))))
		}
	}
	return all
}

// spans are all spans with those ends, empty ones, upside-down ones, and Top ones with a Hi, too.
func spans(ends []string) []api.Span {
	var all []api.Span
	for _, lo := range ends {
		for _, hi := range ends {
			all = append(all, span(lo, hi), api.Span{Lo: lo, Hi: hi, Top: true})
		}
	}
	return all
}

// order is how two keys stand, byte by byte.
func order(a, b string) int { return bytes.Compare([]byte(a), []byte(b)) }

// has tells whether a span has a key, as the document words it.
func has(s api.Span, key string) bool {
	return order(key, s.Lo) >= 0 && (s.Top || order(key, s.Hi) < 0)
}

// rises tells whether a list's keys rise strictly: each one is ahead of all behind it.
func rises(l []api.Pair) bool {
	for i, a := range l {
		for _, b := range l[i+1:] {
			if order(a.Key, b.Key) >= 0 {
				return false
			}
		}
	}
	return true
}

// alike tells whether two lists have the same pairs, field by field.
func alike(a, b []api.Pair) bool {
	if len(a) != len(b) {
		return false
	}
	for i := range a {
		if a[i].Key != b[i].Key || a[i].Val != b[i].Val {
			return false
		}
	}
	return true
}

// sorted is a map's pairs, in order.
func sorted(vals map[string]string) []api.Pair {
	var l []api.Pair
	for _, key := range slices.SortedFunc(maps.Keys(vals), order) {
		l = append(l, pair(key, vals[key]))
	}
	return l
}

// done is what pairs come to behind messages that are done to a map, one by one.
func done(l []api.Pair, m []api.Msg) []api.Pair {
	vals := map[string]string{}
	for _, p := range l {
		vals[p.Key] = p.Val
	}
	for _, x := range m {
		if x.Del {
			delete(vals, x.Key)
		} else {
			vals[x.Key] = x.Val
		}
	}
	return sorted(vals)
}

// wanted is the first pairs that a span has, at most so many.
func wanted(l []api.Pair, s api.Span, most int) []api.Pair {
	var in []api.Pair
	for _, p := range l {
		if has(s, p.Key) && len(in) < most {
			in = append(in, p)
		}
	}
	return in
}

// list is pairs that are told as a text, short enough to read.
type list []api.Pair

// String is that text.
func (l list) String() string {
	var b strings.Builder
	for _, p := range l[:min(len(l), 20)] {
		fmt.Fprintf(&b, "%q: %q, ", p.Key, p.Val)
	}
	return fmt.Sprintf("(%s%d pairs)", b.String(), len(l))
}

// want holds a list against that which it must be.
func want(t *testing.T, got, must []api.Pair, format string, of ...any) {
	t.Helper()
	if !alike(got, must) {
		t.Errorf("%s = %v, not %v", fmt.Sprintf(format, of...), list(got), list(must))
	}
}

// random is a leaf's pairs, n of them, with some keys that many leaves have.
func random(r *rand.Rand, n int) []api.Pair {
	vals := map[string]string{}
	for len(vals) < n {
		vals[randomKey(r)] = fmt.Sprint(r.Intn(1000))
	}
	return sorted(vals)
}

// randomKey is one of some thousands of keys, many of which begin alike.
func randomKey(r *rand.Rand) string {
	return strings.Repeat("k", r.Intn(3)) + string([]byte{byte(r.Intn(256)), byte(r.Intn(4) * 85)})[r.Intn(2):]
}

// randomMessages are n messages, in no order, some of keys that the list has, some of one key.
func randomMessages(r *rand.Rand, l []api.Pair, n int) []api.Msg {
	var m []api.Msg
	for i := range n {
		key := randomKey(r)
		if len(l) > 0 && r.Intn(2) == 0 {
			key = l[r.Intn(len(l))].Key
		}
		if len(m) > 0 && r.Intn(3) == 0 {
			key = m[r.Intn(len(m))].Key
		}
		one := put(key, fmt.Sprint("n", i))
		if r.Intn(3) == 0 {
			one = del(key)
		}
		m = append(m, one)
	}
	return m
}

// rows are all rows of up to n keys, each from all of some.
func rows(of []string, n int) [][]string {
	all, last := [][]string{nil}, [][]string{nil}
	for range n {
		var next [][]string
		for _, l := range last {
			for _, key := range of {
				next = append(next, append(slices.Clone(l), key))
			}
		}
		all, last = append(all, next...), next
	}
	return all
}

func TestExamples(t *testing.T) {
	l := []api.Pair{pair("a", "1"), pair("c", "3")}
	want(t, leaf.Apply(l, put("b", "2"), del("a")), []api.Pair{pair("b", "2"), pair("c", "3")}, "the example's Apply")
	a, b, pivot, ok := leaf.Halve([]api.Pair{pair("a", "1"), pair("ab", "2"), pair("b", "3")})
	want(t, a, []api.Pair{pair("a", "1"), pair("ab", "2")}, "the first half of the example")
	want(t, b, []api.Pair{pair("b", "3")}, "the other half of the example")
	if pivot != "b" || !ok {
		t.Errorf("the example's pivot = %q, %v", pivot, ok)
	}
}

func TestRight(t *testing.T) {
	for _, x := range []struct {
		l    []api.Pair
		must bool
	}{
		{nil, true}, {[]api.Pair{}, true}, {[]api.Pair{{}}, true}, {[]api.Pair{pair("a", "1")}, true},
		{[]api.Pair{pair("a", "1"), pair("b", "1")}, true}, {[]api.Pair{pair("b", "1"), pair("a", "1")}, false},
		{[]api.Pair{pair("a", "1"), pair("a", "1")}, false}, {[]api.Pair{pair("a", "1"), pair("a", "2")}, false},
		{[]api.Pair{pair("a", "2"), pair("b", "1")}, true}, {[]api.Pair{pair("b", "1"), pair("a", "2")}, false},
		{[]api.Pair{{}, pair("\x00", "")}, true}, {[]api.Pair{{}, {}}, false}, {[]api.Pair{pair("\x00", ""), {}}, false},
		{[]api.Pair{pair("a", ""), pair("a\x00", "")}, true}, {[]api.Pair{pair("a\x00", ""), pair("a", "")}, false},
		{[]api.Pair{pair("ab", ""), pair("b", "")}, true}, {[]api.Pair{pair("b", ""), pair("ab", "")}, false},
		{[]api.Pair{pair("10", ""), pair("9", "")}, true}, {[]api.Pair{pair("Z", ""), pair("a", "")}, true}, {[]api.Pair{pair("a", ""), pair("B", "")}, false},
		{[]api.Pair{pair("\x7f", ""), pair("\x80", "")}, true}, {[]api.Pair{pair("\xff", ""), pair("\x00", "")}, false},
		{[]api.Pair{pair("a", ""), pair("b", ""), pair("b", "")}, false}, {[]api.Pair{pair("a", ""), pair("a", ""), pair("b", "")}, false},
		{[]api.Pair{pair("a", ""), pair("c", ""), pair("b", "")}, false}, {[]api.Pair{pair("b", ""), pair("a", ""), pair("c", "")}, false},
		{[]api.Pair{pair("a", ""), pair("b", ""), pair("a", "")}, false},
		// Limits of keys, values and pairs are of nodes.
		{[]api.Pair{pair(strings.Repeat("k", 5000), strings.Repeat("v", 5000)), pair(strings.Repeat("k", 5001), "")}, true},
	} {
		if got := leaf.Right(x.l); got != x.must {
			t.Errorf("Right(%v) = %v", list(x.l), got)
		}
	}
}

func TestRightOfAllShortLists(t *testing.T) {
	for _, row := range rows(some, 4) {
		var l []api.Pair
		for i, key := range row {
			l = append(l, pair(key, strings.Repeat("v", 3-i%3)))
		}
		if got := leaf.Right(l); got != rises(l) {
			t.Fatalf("Right(%v) = %v", list(l), got)
		}
	}
}

// One pair of neighbours that stands wrong is found, wherever it is.
func TestRightOfGreatLists(t *testing.T) {
	for _, n := range []int{2, 3, 64, 1023, 1024, 1025, 2000} {
		l := random(rand.New(rand.NewSource(int64(n))), n)
		if !leaf.Right(l) {
			t.Fatalf("Right of a leaf of %d pairs = false", n)
		}
		for i := range n - 1 {
			swapped := slices.Clone(l)
			swapped[i], swapped[i+1] = swapped[i+1], swapped[i]
			twice := slices.Clone(l)
			twice[i].Key = twice[i+1].Key
			if leaf.Right(swapped) || leaf.Right(twice) {
				t.Fatalf("Right of %d pairs, wrong at %d = true", n, i)
			}
		}
	}
}

func TestSame(t *testing.T) {
	lists := [][]api.Pair{
		nil, {{}}, {{}, {}}, {pair("a", "")}, {pair("", "a")}, {pair("a", "1")}, {pair("a", "2")}, {pair("b", "1")},
		{pair("a", "1"), pair("b", "2")}, {pair("b", "2"), pair("a", "1")}, {pair("a", "2"), pair("b", "1")},
		{pair("a", "1"), pair("a", "1")}, {pair("a", "1"), pair("a", "2")}, {pair("a", "1"), pair("b", "2"), pair("c", "3")},
		{pair("a", "1"), pair("b", "2"), pair("c", "")}, {pair("b", "2"), pair("c", "3")}, {pair("a\x00", "1")}, {pair("a", "1\x00")},
		{pair("a1", "")}, {pair("", "a1")}, {pair("A", "1")}, {pair("\x80", "")}, {pair("\xff", "")}, {pair("\ufffd", "")},
	}
	for i, a := range lists {
		for j, b := range lists {
			// A list of other memory, with spare room.
			b = append(make([]api.Pair, 0, len(b)+3), b...)
			if got := leaf.Same(a, b); got != (i == j) {
				t.Errorf("Same(%v, %v) = %v", list(a), list(b), got)
			}
		}
	}
	if !leaf.Same(nil, []api.Pair{}) || !leaf.Same([]api.Pair{}, nil) || !leaf.Same([]api.Pair{}, []api.Pair{}) {
		t.Error("nil and empty lists are not alike")
	}
}

func TestSameOfAllSmallLeaves(t *testing.T) {
	all := append(leaves(some[:4], "1"), leaves(some[:4], "2")...)
	for _, a := range all {
		for _, b := range all {
			if got := leaf.Same(a, b); got != alike(a, b) {
				t.Fatalf("Same(%v, %v) = %v", list(a), list(b), got)
			}
		}
	}
}

// Each field of each pair counts.
func TestSameOfGreatLists(t *testing.T) {
	l := random(rand.New(rand.NewSource(7)), 1024)
	if !leaf.Same(l, slices.Clone(l)) || leaf.Same(l, l[1:]) || leaf.Same(l[:1023], l) {
		t.Error("a list of 1024 pairs")
	}
	for i := range l {
		for _, turn := range []func(p *api.Pair){
			func(p *api.Pair) { p.Key += "\x00" },
			func(p *api.Pair) { p.Val += "\x00" },
			func(p *api.Pair) { p.Key, p.Val = p.Val+"-", p.Key },
		} {
			other := slices.Clone(l)
			turn(&other[i])
			if leaf.Same(l, other) || leaf.Same(other, l) {
				t.Fatalf("%v and %v are Same, at %d of a list", list(l[i:i+1]), list(other[i:i+1]), i)
			}
		}
	}
}

// get holds Get of a key against a search through all.
func get(t *testing.T, l []api.Pair, key string) {
	t.Helper()
	must, ok := "", false
	for _, p := range l {
		if p.Key == key {
			must, ok = p.Val, true
		}
	}
	if got, told := leaf.Get(l, key); got != must || told != ok {
		t.Errorf("Get(%v, %q) = %q, %v, not %q, %v", list(l), key, got, told, must, ok)
	}
}

func TestGet(t *testing.T) {
	l := []api.Pair{pair("", "0"), pair("a", "1"), pair("b", ""), pair("d", "4"), pair("\xff", "\xff\x00")}
	for _, x := range []struct {
		key, must string
		ok        bool
	}{
		// A value of no bytes is one.
		{"", "0", true}, {"a", "1", true}, {"b", "", true}, {"d", "4", true}, {"\xff", "\xff\x00", true},
		{"\x00", "", false}, {"a\x00", "", false}, {"A", "", false}, {"ab", "", false}, {"c", "", false}, {"e", "", false}, {"\xff\x00", "", false}, {"1", "", false},
	} {
		if got, ok := leaf.Get(l, x.key); got != x.must || ok != x.ok {
			t.Errorf("Get(%q) = %q, %v, not %q, %v", x.key, got, ok, x.must, x.ok)
		}
	}
	for _, none := range [][]api.Pair{nil, {}, l[:0], l[1:]} {
		if got, ok := leaf.Get(none, ""); got != "" || ok {
			t.Errorf("Get(%v, no byte) = %q, %v", list(none), got, ok)
		}
	}
}

func TestGetOfAllSmallLeaves(t *testing.T) {
	for _, l := range leaves(some, "v") {
		for _, key := range keys {
			get(t, l, key)
		}
		if t.Failed() {
			t.FailNow()
		}
	}
}

func TestGetOfGreatLeaves(t *testing.T) {
	for _, n := range []int{1, 2, 3, 31, 32, 33, 1023, 1024, 1025} {
		l := random(rand.New(rand.NewSource(int64(n))), n)
		for _, p := range l {
			get(t, l, p.Key)
			get(t, l, p.Key+"\x00")
		}
	}
}

func TestApply(t *testing.T) {
	b, d := pair("b", "2"), pair("d", "4")
	for _, x := range []struct {
		l    []api.Pair
		m    []api.Msg
		must []api.Pair
	}{
		{nil, nil, nil}, {[]api.Pair{}, []api.Msg{}, nil}, {[]api.Pair{b, d}, nil, []api.Pair{b, d}}, {[]api.Pair{b, d}, []api.Msg{}, []api.Pair{b, d}},
		{nil, []api.Msg{put("b", "2")}, []api.Pair{b}}, {nil, []api.Msg{del("b")}, nil}, {nil, []api.Msg{{}}, []api.Pair{{}}}, {[]api.Pair{{}}, []api.Msg{del("")}, nil},
		{[]api.Pair{b, d}, []api.Msg{put("a", "1")}, []api.Pair{pair("a", "1"), b, d}},
		{[]api.Pair{b, d}, []api.Msg{put("c", "3")}, []api.Pair{b, pair("c", "3"), d}},
		{[]api.Pair{b, d}, []api.Msg{put("e", "5")}, []api.Pair{b, d, pair("e", "5")}},
		{[]api.Pair{b, d}, []api.Msg{put("b", "3")}, []api.Pair{pair("b", "3"), d}},
		{[]api.Pair{b, d}, []api.Msg{put("d", "")}, []api.Pair{b, pair("d", "")}},
		{[]api.Pair{b, d}, []api.Msg{put("b", "2")}, []api.Pair{b, d}},
		{[]api.Pair{b, d}, []api.Msg{del("b")}, []api.Pair{d}}, {[]api.Pair{b, d}, []api.Msg{del("d")}, []api.Pair{b}},
		{[]api.Pair{b, d}, []api.Msg{del("a")}, []api.Pair{b, d}}, {[]api.Pair{b, d}, []api.Msg{del("c")}, []api.Pair{b, d}}, {[]api.Pair{b, d}, []api.Msg{del("e")}, []api.Pair{b, d}},
		{[]api.Pair{b, d}, []api.Msg{del("b\x00")}, []api.Pair{b, d}}, {[]api.Pair{b, d}, []api.Msg{del("")}, []api.Pair{b, d}},
		{[]api.Pair{b, d}, []api.Msg{put("b\x00", "3")}, []api.Pair{b, pair("b\x00", "3"), d}},
		{[]api.Pair{b, d}, []api.Msg{del("d"), del("b")}, nil}, {[]api.Pair{b, d}, []api.Msg{del("b"), del("d")}, nil},
		// The last one of a key holds, whatever stands between.
		{[]api.Pair{b, d}, []api.Msg{put("b", "3"), put("b", "4")}, []api.Pair{pair("b", "4"), d}},
		{[]api.Pair{b, d}, []api.Msg{put("b", "4"), put("b", "3")}, []api.Pair{pair("b", "3"), d}},
		{[]api.Pair{b, d}, []api.Msg{del("b"), put("b", "3")}, []api.Pair{pair("b", "3"), d}},
		{[]api.Pair{b, d}, []api.Msg{put("b", "3"), del("b")}, []api.Pair{d}},
		{[]api.Pair{b, d}, []api.Msg{put("c", "1"), del("d"), put("c", "2"), del("b"), del("c"), put("b", "5")}, []api.Pair{pair("b", "5")}},
		{nil, []api.Msg{put("c", "1"), put("a", "2"), put("c", "3"), put("b", "4"), put("a", "5")}, []api.Pair{pair("a", "5"), pair("b", "4"), pair("c", "3")}},
		// Whatever else a message that is Del has, its key has no value.
		{[]api.Pair{b, d}, []api.Msg{{Key: "b", Del: true, Val: "3"}, {Key: "c", Del: true, Val: "3"}}, []api.Pair{d}},
	} {
		want(t, leaf.Apply(x.l, x.m...), x.must, "Apply(%v, %v)", list(x.l), x.m)
	}
}

// apply holds Apply against messages that are done to a map, and, key by key, against the last message of it (P11.4).
func apply(t *testing.T, l []api.Pair, m []api.Msg) {
	t.Helper()
	got := leaf.Apply(l, m...)
	want(t, got, done(l, m), "Apply(%v, %v)", list(l), m)
	if !leaf.Right(got) {
		t.Errorf("Apply(%v, %v) = %v", list(l), m, list(got))
	}
	one := l
	for _, x := range m {
		one = leaf.Apply(one, x)
	}
	want(t, one, got, "%v, one by one to %v", m, list(l))
	if !leaf.Same(one, got) {
		t.Errorf("%v and %v are not Same", list(one), list(got))
	}
}

// said is what the last message of a key says of it, or, if there is none, what it had.
func said(l []api.Pair, m []api.Msg, key string) (string, bool) {
	for _, x := range slices.Backward(m) {
		if x.Key == key {
			return x.Val, !x.Del
		}
	}
	return leaf.Get(l, key)
}

func TestApplyToAllSmallLeaves(t *testing.T) {
	var lists [][]api.Msg
	for _, row := range rows(some, 3) {
		for dels := range 1 << len(row) {
			var m []api.Msg
			for i, key := range row {
				if dels>>i&1 == 1 {
					m = append(m, del(key))
				} else {
					m = append(m, put(key, fmt.Sprint("n", i)))
				}
			}
			lists = append(lists, m)
		}
	}
	for _, l := range sets(some) {
		for _, m := range lists {
			apply(t, l, m)
			got := leaf.Apply(l, m...)
			for _, key := range keys {
				val, ok := leaf.Get(got, key)
				if must, there := said(l, m, key); val != must || ok != there {
					t.Errorf("%q behind Apply(%v, %v): %q, %v, not %q, %v", key, list(l), m, val, ok, must, there)
				}
			}
		}
		if t.Failed() {
			t.FailNow()
		}
	}
}

func TestApplyToGreatLeaves(t *testing.T) {
	r := rand.New(rand.NewSource(11))
	for _, n := range []int{0, 1, 2, 63, 1023, 1024, 1025} {
		for _, k := range []int{0, 1, 2, 40, 511, 512, 1500} {
			l := random(r, n)
			apply(t, l, randomMessages(r, l, k))
		}
	}
}

// Messages that rise, as a buffer's do, messages that fall, all of a key, and all that a leaf has, taken away.
func TestApplyInOrders(t *testing.T) {
	r := rand.New(rand.NewSource(12))
	for _, n := range []int{1, 12, 13, 20, 21, 100, 1024} {
		l := random(r, n)
		var rising, alike, gone []api.Msg
		for i, p := range random(r, n) {
			rising = append(rising, put(p.Key, fmt.Sprint("n", i)))
			alike = append(alike, put("kk", fmt.Sprint("n", i)))
			gone = append(gone, del(l[i].Key))
		}
		apply(t, l, rising)
		apply(t, l, gone)
		apply(t, l, alike)
		apply(t, l, append(slices.Clone(alike), del("kk")))
		apply(t, l, slices.Concat(rising, gone, alike, rising))
		slices.Reverse(rising)
		apply(t, l, rising)
		slices.Reverse(gone)
		apply(t, l, gone)
		want(t, leaf.Apply(l, gone...), nil, "all %d taken away", n)
	}
}

func TestManyOneByOne(t *testing.T) {
	r := rand.New(rand.NewSource(13))
	var l []api.Pair
	var all []api.Msg
	for i := range 3000 {
		m := put(randomKey(r), fmt.Sprint(i))
		if r.Intn(4) == 0 {
			m = del(m.Key)
		}
		l, all = leaf.Apply(l, m), append(all, m)
		if i%50 == 0 {
			want(t, l, done(nil, all), "%d messages, one by one", i+1)
		}
	}
	want(t, l, done(nil, all), "all messages, one by one")
	want(t, leaf.Apply(nil, all...), l, "all messages at once")
	if len(l) < 600 {
		t.Errorf("no more than %d keys", len(l))
	}
}

func TestPart(t *testing.T) {
	a, b, c, d := pair("a", "1"), pair("b", ""), pair("c", "3"), pair("d", "4")
	l := []api.Pair{a, b, c, d}
	for _, x := range []struct {
		s    api.Span
		most int
		must []api.Pair
	}{
		{span("", "z"), 9, l}, {from(""), 4, l}, {from(""), math.MaxInt, l}, {span("a", "e"), 4, l}, {span("a", "d\x00"), 5, l}, {from("a"), 4, l},
		{from(""), 3, []api.Pair{a, b, c}}, {from(""), 1, []api.Pair{a}}, {from(""), 0, nil}, {from(""), -1, nil}, {from(""), math.MinInt, nil},
		{span("b", "d"), 9, []api.Pair{b, c}}, {span("b", "d"), 2, []api.Pair{b, c}}, {span("b", "d"), 1, []api.Pair{b}}, {span("b", "d"), 0, nil}, {span("b", "d"), -1, nil}, {span("b", "d"), math.MinInt, nil},
		{span("a\x00", "c\x00"), 9, []api.Pair{b, c}}, {span("a", "b"), 9, []api.Pair{a}}, {span("", "b"), 9, []api.Pair{a}}, {span("", "b\x00"), 9, []api.Pair{a, b}},
		{from("c"), 9, []api.Pair{c, d}}, {from("c"), 1, []api.Pair{c}}, {from("c\x00"), 9, []api.Pair{d}}, {from("d"), math.MaxInt, []api.Pair{d}},
		{api.Span{Lo: "c", Hi: "a", Top: true}, 9, []api.Pair{c, d}}, {api.Span{Lo: "b", Hi: "c", Top: true}, 9, []api.Pair{b, c, d}},
		{from("d\x00"), 9, nil}, {span("", "a"), 9, nil}, {span("e", "z"), 9, nil}, {span("a\x00", "b"), 9, nil},
		{api.Span{}, 9, nil}, {span("b", "b"), 9, nil}, {span("c", "a"), 9, nil}, {span("c", "a"), math.MaxInt, nil}, {span("c", "a"), math.MinInt, nil}, {span("z", ""), 9, nil}, {span("d\x00", "a"), 9, nil},
	} {
		want(t, leaf.Part(l, x.s, x.most), x.must, "Part(%v, %#v, %d)", list(l), x.s, x.most)
		want(t, leaf.Part(nil, x.s, x.most), nil, "Part of nothing, %#v, %d", x.s, x.most)
	}
}

// part holds Part of a span against a search through all.
func part(t *testing.T, l []api.Pair, s api.Span) {
	t.Helper()
	n := len(wanted(l, s, len(l)))
	for _, most := range []int{math.MinInt, -1, 0, 1, 2, n - 1, n, n + 1, len(l), math.MaxInt} {
		want(t, leaf.Part(l, s, most), wanted(l, s, most), "Part(%v, %#v, %d)", list(l), s, most)
	}
}

func TestPartOfAllSmallLeaves(t *testing.T) {
	ends := []string{"", "\x00", "a", "a\x00", "ab", "b", "\xff", "\xff\xff"}
	for _, l := range sets(some) {
		for _, s := range spans(ends) {
			part(t, l, s)
		}
		if t.Failed() {
			t.FailNow()
		}
	}
}

func TestPartOfGreatLeaves(t *testing.T) {
	r := rand.New(rand.NewSource(14))
	for _, n := range []int{1, 2, 64, 1023, 1024, 1100} {
		l := random(r, n)
		for range 100 {
			lo, hi := l[r.Intn(n)].Key, l[r.Intn(n)].Key
			part(t, l, span(lo, hi))
			part(t, l, span(min(lo, hi), max(lo, hi)+"\x00"))
			part(t, l, api.Span{Lo: randomKey(r), Hi: randomKey(r), Top: r.Intn(2) == 0})
		}
		part(t, l, from(""))
	}
}

// of are pairs of keys, each with a value of its own.
func of(keys ...string) []api.Pair {
	var l []api.Pair
	for i, key := range keys {
		l = append(l, pair(key, fmt.Sprint(i)))
	}
	return l
}

func TestHalve(t *testing.T) {
	for _, x := range []struct {
		l     []api.Pair
		first int
		pivot string
	}{
		{of("a", "b"), 1, "b"}, {of("", "a"), 1, "a"}, {of("", "\x00"), 1, "\x00"}, {of("", "abc"), 1, "a"}, {of("a", "ab"), 1, "ab"}, {of("a", "abc"), 1, "ab"},
		{of("abc", "abx"), 1, "abx"}, {of("abc", "abxyz"), 1, "abx"}, {of("abc", "bcd"), 1, "b"}, {of("abc", "abcdef"), 1, "abcd"}, {of("a", "a\x00\x00"), 1, "a\x00"},
		{of("a\xff", "b\x00"), 1, "b"}, {of("\xff", "\xff\xff\xff"), 1, "\xff\xff"}, {of("\x7f", "\x80\x80"), 1, "\x80"},
		{of("a", "b", "c"), 2, "c"}, {of("a", "bb", "bcd"), 2, "bc"}, {of("a", "b", "c", "d"), 2, "c"}, {of("a", "b", "b1x", "d"), 2, "b1"},
		{of("a", "b", "c", "d", "e"), 3, "d"}, {of("a", "b", "c", "cc", "cd"), 3, "cc"}, {of("a", "b", "c", "d", "e", "f"), 3, "d"}, {of("a", "b", "c", "d", "e", "f", "g"), 4, "e"},
	} {
		a, b, pivot, ok := leaf.Halve(x.l)
		want(t, a, x.l[:x.first], "the first half of %v", list(x.l))
		want(t, b, x.l[x.first:], "the other half of %v", list(x.l))
		if pivot != x.pivot || !ok {
			t.Errorf("the pivot of %v = %q, %v, not %q", list(x.l), pivot, ok, x.pivot)
		}
	}
	for _, few := range [][]api.Pair{nil, {}, {{}}, of("a"), of("abc", "b")[:1], of("a", "b")[2:]} {
		a, b, pivot, ok := leaf.Halve(few)
		if a != nil || b != nil || pivot != "" || ok {
			t.Errorf("Halve(%v) = %v, %v, %q, %v", list(few), list(a), list(b), pivot, ok)
		}
	}
}

// halve holds Halve against what the document says of it (P11.5 with it).
func halve(t *testing.T, l []api.Pair) {
	t.Helper()
	a, b, pivot, ok := leaf.Halve(l)
	if ok != (len(l) > 1) {
		t.Errorf("Halve(%v): %v", list(l), ok)
	}
	if !ok {
		want(t, a, nil, "the first half of %v", list(l))
		want(t, b, nil, "the other half of %v", list(l))
		return
	}
	want(t, slices.Concat(a, b), l, "both halves of %v", list(l))
	if more := len(a) - len(b); more != 0 && more != 1 {
		t.Errorf("Halve(%v): %d pairs, %d pairs", list(l), len(a), len(b))
	}
	for _, p := range a {
		if order(p.Key, pivot) >= 0 {
			t.Errorf("Halve(%v): %q of the first half is not ahead of %q", list(l), p.Key, pivot)
		}
	}
	for _, p := range b {
		if order(p.Key, pivot) < 0 {
			t.Errorf("Halve(%v): %q of the other half is ahead of %q", list(l), p.Key, pivot)
		}
	}
	// The first bytes of a key, and one byte fewer is not behind the last one of the first half.
	if !strings.HasPrefix(b[0].Key, pivot) || order(pivot[:len(pivot)-1], a[len(a)-1].Key) > 0 {
		t.Errorf("Halve(%v): the pivot %q is no Cut", list(l), pivot)
	}
	if !leaf.Right(a) || !leaf.Right(b) {
		t.Errorf("Halve(%v) = %v, %v", list(l), list(a), list(b))
	}
}

func TestHalveOfAllSmallLeaves(t *testing.T) {
	for _, l := range sets(keys) {
		halve(t, l)
		if t.Failed() {
			t.FailNow()
		}
	}
}

func TestHalveOfGreatLeaves(t *testing.T) {
	r := rand.New(rand.NewSource(15))
	for _, n := range []int{63, 64, 65, 1023, 1024, 1025, 1100} {
		for range 20 {
			halve(t, random(r, n))
		}
	}
}

// room is a list in the midst of memory that has more, and that whole memory.
func room(l []api.Pair) (part, all []api.Pair) {
	all = append([]api.Pair{pair("ahead", "x")}, l...)
	all = append(all, pair("spare", "y"), pair("room", ""), pair("", "z"))
	return all[1 : 1+len(l)], all
}

// spoil changes all that a list's asker may change, its spare room included.
func spoil(l []api.Pair) {
	l = l[:cap(l)]
	for i := range l {
		l[i] = pair("spoilt", "spoilt")
	}
}

// Nothing that is handed in changes in a call, nor when what was told is changed; nor do two lists that one call tells have anything in common.
func TestMemory(t *testing.T) {
	long := random(rand.New(rand.NewSource(16)), 40)
	for _, x := range []struct {
		name string
		call func(l []api.Pair) [][]api.Pair
	}{
		{"Right, Same, Get", func(l []api.Pair) [][]api.Pair {
			leaf.Right(l)
			leaf.Same(l, long)
			leaf.Get(l, "b")
			return nil
		}},
		{"Apply of nothing", func(l []api.Pair) [][]api.Pair { return [][]api.Pair{leaf.Apply(l)} }},
		{"Apply of a new key", func(l []api.Pair) [][]api.Pair { return [][]api.Pair{leaf.Apply(l, put("new", "1"))} }},
		{"Apply of the first key", func(l []api.Pair) [][]api.Pair { return [][]api.Pair{leaf.Apply(l, put("", "1"))} }},
		{"Apply of the last key", func(l []api.Pair) [][]api.Pair { return [][]api.Pair{leaf.Apply(l, put("\xff\xff\xff", "1"))} }},
		{"Apply of a Del of none", func(l []api.Pair) [][]api.Pair { return [][]api.Pair{leaf.Apply(l, del("none"))} }},
		{"Apply of keys that are there", func(l []api.Pair) [][]api.Pair {
			key := slices.Concat(l, of("b"))[0].Key
			return [][]api.Pair{leaf.Apply(l, put(key, "1")), leaf.Apply(l, del(key))}
		}},
		{"Apply of many", func(l []api.Pair) [][]api.Pair {
			return [][]api.Pair{leaf.Apply(l, put("k", "1"), del("b"), put("c", "1"), del("k"), put("\xff\xff\xff", "1"))}
		}},
		{"Part", func(l []api.Pair) [][]api.Pair { return [][]api.Pair{leaf.Part(l, span("a", "k"), 5)} }},
		{"Part of all", func(l []api.Pair) [][]api.Pair { return [][]api.Pair{leaf.Part(l, from(""), len(l))} }},
		{"Part of none", func(l []api.Pair) [][]api.Pair {
			return [][]api.Pair{leaf.Part(l, span("k", "a"), 5), leaf.Part(l, from(""), 0)}
		}},
		{"Halve", func(l []api.Pair) [][]api.Pair {
			a, b, _, _ := leaf.Halve(l)
			return [][]api.Pair{a, b}
		}},
	} {
		for _, l := range [][]api.Pair{nil, long[:1], long[:2], long[:3], of("a", "b", "z"), long} {
			apart(t, x.name, l, x.call)
		}
	}
}

// apart holds what a call was handed, and what it told, against what all of these were, while what it told is spoilt list by list.
func apart(t *testing.T, name string, l []api.Pair, call func(l []api.Pair) [][]api.Pair) {
	t.Helper()
	mine, all := room(l)
	was := slices.Clone(all)
	told := call(mine)
	toldWas := make([][]api.Pair, len(told))
	for i := range told {
		toldWas[i] = slices.Clone(told[i])
	}
	for i := range told {
		for j := i; j < len(told); j++ {
			want(t, told[j], toldWas[j], "%s: list %d, when %d lists were changed,", name, j, i)
		}
		spoil(told[i])
	}
	want(t, all, was, "%s: what was handed in", name)
	// What is handed in isn't kept: the same call tells the same once more, and whoever handed it in may change it behind that.
	again := call(mine)
	spoil(mine)
	for i := range again {
		want(t, again[i], toldWas[i], "%s: list %d, when what was handed in was changed,", name, i)
	}
}

// Messages that are handed in as a list are that list itself: they stay as they are, and in their order.
func TestMessagesStay(t *testing.T) {
	r := rand.New(rand.NewSource(17))
	l := random(r, 30)
	for _, n := range []int{0, 1, 2, 3, 12, 13, 30, 200} {
		m := randomMessages(r, l, n)
		all := append(slices.Clone(m), put("spare", "y"), del("room"))
		was := slices.Clone(all)
		got := leaf.Apply(l, all[:n]...)
		if !slices.Equal(all, was) {
			t.Errorf("%d messages were %v, and are %v", n, was, all)
		}
		for i := range all {
			all[i] = put("spoilt", "spoilt")
		}
		want(t, got, done(l, m), "%d messages that were changed behind Apply", n)
	}
}

// Of lists that are no leaf's it is free what is told, but each call ends, and nothing handed in changes.
func TestOtherListsEnd(t *testing.T) {
	var lists [][]api.Pair
	for _, row := range rows([]string{"", "a", "b", "\xff"}, 4) {
		lists = append(lists, of(row...))
	}
	r := rand.New(rand.NewSource(18))
	back := random(r, 300)
	slices.Reverse(back)
	lists = append(lists, back, slices.Concat(back, back), slices.Repeat(back[:1], 600))
	messages := randomMessages(r, back, 100)
	for _, l := range lists {
		odd, all := room(l)
		was := slices.Clone(all)
		leaf.Apply(odd, messages...)
		leaf.Halve(odd)
		for _, key := range some {
			leaf.Get(odd, key)
			leaf.Apply(odd, put(key, "n"), del("a"), put("b", "n"), del(key))
		}
		for _, s := range spans(some) {
			for _, most := range []int{math.MinInt, -1, 0, 1, 2, 300, math.MaxInt} {
				leaf.Part(odd, s, most)
			}
		}
		want(t, all, was, "what was handed in")
	}
}
