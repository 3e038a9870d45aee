package buf_test

import (
	"bytes"
	"fmt"
	"maps"
	"math"
	"math/rand"
	"slices"
	"strings"
	"testing"

	"sluicegate/api"
	"sluicegate/buf"
)

// keys are in order; byte by byte they stand otherwise than by length, by signed bytes, or without their last noughts.
var keys = []string{"", "\x00", "a", "a\x00", "ab", "b", "\x7f", "\x80", "\xff", "\xff\xff"}

// some are keys of which all buffers are gone through.
var some = []string{"", "a", "a\x00", "b", "\xff"}

// put is the message that a key has a value.
func put(key, val string) api.Msg { return api.Msg{Key: key, Val: val} }

// del is the message that a key has no value.
func del(key string) api.Msg { return api.Msg{Key: key, Del: true} }

// span is the keys from lo on below hi.
func span(lo, hi string) api.Span { return api.Span{Lo: lo, Hi: hi} }

// from is the keys from lo on.
func from(lo string) api.Span { return api.Span{Lo: lo, Top: true} }

// kinds are messages of a key, unlike each other and those of another mark.
func kinds(key, mark string) []api.Msg {
	return []api.Msg{put(key, mark), del(key), {Key: key, Del: true, Val: mark}}
}

// buffers are all buffers of some keys, each with no message or one of each kind.
func buffers(of []string, mark string) [][]api.Msg {
	all := [][]api.Msg{nil}
	for _, key := range of {
		for _, l := range all {
			for _, m := range kinds(key, mark) {
				all = append(all, append(slices.Clone(l), m))
			}
		}
	}
	return all
}

// sets are all buffers of some keys, each with no message or one.
func sets(of []string) [][]api.Msg {
	all := [][]api.Msg{nil}
	for i, key := range of {
		for _, l := range all {
			all = append(all, append(slices.Clone(l), kinds(key, "v")[i%3]))
		}
	}
	return all
}

// spans are all spans with those ends, empty ones, upside-down ones, and Top ones with a Hi, too.
func spans(ends []string) []api.Span {
	var all []api.Span
	for _, lo := range ends {
		for _, hi := range ends {
			all = append(all, span(lo, hi), api.Span{Lo: lo, Hi: hi, Top: true})
		}
	}
	return all
}

// order is how two keys stand, byte by byte.
func order(a, b string) int { return bytes.Compare([]byte(a), []byte(b)) }

// has tells whether a span has a key, as the document words it.
func has(s api.Span, key string) bool {
	return order(key, s.Lo) >= 0 && (s.Top || order(key, s.Hi) < 0)
}

// rises tells whether a list's keys rise strictly: each one is ahead of all behind it.
func rises(l []api.Msg) bool {
	for i, a := range l {
		for _, b := range l[i+1:] {
			if order(a.Key, b.Key) >= 0 {
				return false
			}
		}
	}
	return true
}

// alike tells whether two lists have the same messages, field by field.
func alike(a, b []api.Msg) bool {
	if len(a) != len(b) {
		return false
	}
	for i := range a {
		if a[i].Key != b[i].Key || a[i].Del != b[i].Del || a[i].Val != b[i].Val {
			return false
		}
	}
	return true
}

// laid is the buffer of lists of which a later one's messages stand for an earlier one's.
func laid(lists ...[]api.Msg) []api.Msg {
	last := map[string]api.Msg{}
	for _, l := range lists {
		for _, m := range l {
			last[m.Key] = m
		}
	}
	return slices.SortedFunc(maps.Values(last), func(a, b api.Msg) int { return order(a.Key, b.Key) })
}

// parted is the first messages that are wanted, at most so many, and all others.
func parted(l []api.Msg, wanted func(key string) bool, most int) (in, out []api.Msg) {
	for _, m := range l {
		if wanted(m.Key) && len(in) < most {
			in = append(in, m)
		} else {
			out = append(out, m)
		}
	}
	return in, out
}

// list is messages that are told as a text, short enough to read.
type list []api.Msg

// String is that text.
func (l list) String() string {
	var b strings.Builder
	for _, m := range l[:min(len(l), 20)] {
		fmt.Fprintf(&b, "%q: %q", m.Key, m.Val)
		if m.Del {
			b.WriteString(" (Del)")
		}
		b.WriteString(", ")
	}
	return fmt.Sprintf("(%s%d messages)", b.String(), len(l))
}

// want holds a list against that which it must be.
func want(t *testing.T, got, must []api.Msg, format string, of ...any) {
	t.Helper()
	if !alike(got, must) {
		t.Errorf("%s = %v, not %v", fmt.Sprintf(format, of...), list(got), list(must))
	}
}

// random is a buffer of n messages, with some keys that many buffers have.
func random(r *rand.Rand, n int) []api.Msg {
	last := map[string]api.Msg{}
	for len(last) < n {
		m := put(randomKey(r), fmt.Sprint(r.Intn(1000)))
		if r.Intn(3) == 0 {
			m = del(m.Key)
		}
		last[m.Key] = m
	}
	return slices.SortedFunc(maps.Values(last), func(a, b api.Msg) int { return order(a.Key, b.Key) })
}

// randomKey is one of some thousands of keys, many of which begin alike.
func randomKey(r *rand.Rand) string {
	return strings.Repeat("k", r.Intn(3)) + string([]byte{byte(r.Intn(256)), byte(r.Intn(4) * 85)})[r.Intn(2):]
}

func TestExample(t *testing.T) {
	newer := []api.Msg{put("a", "1"), del("c")}
	older := []api.Msg{put("a", "0"), put("b", "2")}
	want(t, buf.Merge(newer, older), []api.Msg{put("a", "1"), put("b", "2"), del("c")}, "the example's Merge")
}

func TestRight(t *testing.T) {
	for _, x := range []struct {
		l    []api.Msg
		must bool
	}{
		{nil, true}, {[]api.Msg{}, true}, {[]api.Msg{{}}, true}, {[]api.Msg{put("a", "1")}, true},
		{[]api.Msg{put("a", "1"), put("b", "1")}, true}, {[]api.Msg{put("b", "1"), put("a", "1")}, false},
		{[]api.Msg{put("a", "1"), put("a", "1")}, false}, {[]api.Msg{put("a", "1"), put("a", "2")}, false},
		{[]api.Msg{put("a", "1"), del("a")}, false}, {[]api.Msg{del("a"), del("b")}, true},
		{[]api.Msg{put("a", "2"), put("b", "1")}, true}, {[]api.Msg{{}, put("\x00", "")}, true}, {[]api.Msg{{}, {}}, false},
		{[]api.Msg{put("a", ""), put("a\x00", "")}, true}, {[]api.Msg{put("a\x00", ""), put("a", "")}, false},
		{[]api.Msg{put("ab", ""), put("b", "")}, true}, {[]api.Msg{put("b", ""), put("ab", "")}, false},
		{[]api.Msg{put("10", ""), put("9", "")}, true}, {[]api.Msg{put("Z", ""), put("a", "")}, true}, {[]api.Msg{put("a", ""), put("B", "")}, false},
		{[]api.Msg{put("\x7f", ""), put("\x80", "")}, true}, {[]api.Msg{put("\xff", ""), put("\x00", "")}, false},
		{[]api.Msg{put("a", ""), put("b", ""), put("b", "")}, false}, {[]api.Msg{put("a", ""), put("a", ""), put("b", "")}, false},
		{[]api.Msg{put("a", ""), put("c", ""), put("b", "")}, false}, {[]api.Msg{put("b", ""), put("a", ""), put("c", "")}, false},
		{[]api.Msg{put("a", ""), put("b", ""), put("a", "")}, false},
		// A message that is Del may have a Val: that is for a node to tell.
		{[]api.Msg{{Key: "a", Del: true, Val: "1"}}, true},
		// Limits of keys, values and messages are of nodes, too.
		{[]api.Msg{put(strings.Repeat("k", 5000), strings.Repeat("v", 5000)), put(strings.Repeat("k", 5001), "")}, true},
	} {
		if got := buf.Right(x.l); got != x.must {
			t.Errorf("Right(%v) = %v", list(x.l), got)
		}
	}
}

// rows are all rows of up to n keys, each from all of some.
func rows(of []string, n int) [][]string {
	all, last := [][]string{nil}, [][]string{nil}
	for range n {
		var next [][]string
		for _, l := range last {
			for _, key := range of {
				next = append(next, append(slices.Clone(l), key))
			}
		}
		all, last = append(all, next...), next
	}
	return all
}

func TestRightOfAllShortLists(t *testing.T) {
	for _, row := range rows(some, 4) {
		var l []api.Msg
		for i, key := range row {
			l = append(l, kinds(key, "v")[i%3])
		}
		if got := buf.Right(l); got != rises(l) {
			t.Fatalf("Right(%v) = %v", list(l), got)
		}
	}
}

// One pair of neighbours that stands wrong is found, wherever it is.
func TestRightOfGreatLists(t *testing.T) {
	for _, n := range []int{2, 3, 64, 511, 512, 513, 2000} {
		l := random(rand.New(rand.NewSource(int64(n))), n)
		if !buf.Right(l) {
			t.Fatalf("Right of a buffer of %d messages = false", n)
		}
		for i := range n - 1 {
			swapped := slices.Clone(l)
			swapped[i], swapped[i+1] = swapped[i+1], swapped[i]
			twice := slices.Clone(l)
			twice[i].Key = twice[i+1].Key
			if buf.Right(swapped) || buf.Right(twice) {
				t.Fatalf("Right of %d messages, wrong at %d = true", n, i)
			}
		}
	}
}

func TestSame(t *testing.T) {
	lists := [][]api.Msg{
		nil, {{}}, {{}, {}}, {put("a", "")}, {put("", "a")}, {del("")}, {del("a")}, {put("a", "1")}, {{Key: "a", Del: true, Val: "1"}},
		{put("a", "1"), put("b", "2")}, {put("b", "2"), put("a", "1")}, {put("a", "2"), put("b", "1")},
		{put("a", "1"), put("a", "1")}, {put("a", "1"), del("a")}, {put("a", "1"), put("b", "2"), put("c", "3")},
		{put("a", "1"), put("b", "2"), del("c")}, {put("b", "2"), put("c", "3")}, {put("a\x00", "1")}, {put("a", "1\x00")},
		{put("a1", "")}, {put("A", "1")}, {put("\x80", "")}, {put("\xff", "")}, {put("\ufffd", "")},
	}
	for i, a := range lists {
		for j, b := range lists {
			// A list of other memory, with spare room.
			b = append(make([]api.Msg, 0, len(b)+3), b...)
			if got := buf.Same(a, b); got != (i == j) {
				t.Errorf("Same(%v, %v) = %v", list(a), list(b), got)
			}
		}
	}
	if !buf.Same(nil, []api.Msg{}) || !buf.Same([]api.Msg{}, nil) || !buf.Same([]api.Msg{}, []api.Msg{}) {
		t.Error("nil and empty lists are not alike")
	}
}

func TestSameOfAllSmallBuffers(t *testing.T) {
	all := append(buffers(some[:3], "1"), buffers(some[:3], "2")...)
	for _, a := range all {
		for _, b := range all {
			if got := buf.Same(a, b); got != alike(a, b) {
				t.Fatalf("Same(%v, %v) = %v", list(a), list(b), got)
			}
		}
	}
}

// Each field of each message counts.
func TestSameOfGreatLists(t *testing.T) {
	l := random(rand.New(rand.NewSource(7)), 512)
	if !buf.Same(l, slices.Clone(l)) || buf.Same(l, l[1:]) || buf.Same(l[:511], l) {
		t.Error("a list of 512 messages")
	}
	for i := range l {
		for _, turn := range []func(m *api.Msg){
			func(m *api.Msg) { m.Key += "\x00" },
			func(m *api.Msg) { m.Del = !m.Del },
			func(m *api.Msg) { m.Val += "\x00" },
		} {
			other := slices.Clone(l)
			turn(&other[i])
			if buf.Same(l, other) || buf.Same(other, l) {
				t.Fatalf("%v and %v are Same, at %d of a list", list(l[i:i+1]), list(other[i:i+1]), i)
			}
		}
	}
}

// find holds Find of a key against a search through all.
func find(t *testing.T, l []api.Msg, key string) {
	t.Helper()
	must, ok := api.Msg{}, false
	for _, m := range l {
		if m.Key == key {
			must, ok = m, true
		}
	}
	if got, told := buf.Find(l, key); got != must || told != ok {
		t.Errorf("Find(%v, %q) = %v, %v, not %v, %v", list(l), key, list{got}, told, list{must}, ok)
	}
}

func TestFind(t *testing.T) {
	l := []api.Msg{put("", "0"), put("a", "1"), del("b"), put("d", ""), put("\xff", "9")}
	for _, x := range []struct {
		key  string
		must api.Msg
		ok   bool
	}{
		{"", put("", "0"), true}, {"a", put("a", "1"), true}, {"b", del("b"), true}, {"d", put("d", ""), true}, {"\xff", put("\xff", "9"), true},
		{"\x00", api.Msg{}, false}, {"a\x00", api.Msg{}, false}, {"A", api.Msg{}, false}, {"ab", api.Msg{}, false}, {"c", api.Msg{}, false}, {"e", api.Msg{}, false}, {"\xff\x00", api.Msg{}, false},
	} {
		if got, ok := buf.Find(l, x.key); got != x.must || ok != x.ok {
			t.Errorf("Find(%q) = %v, %v, not %v, %v", x.key, list{got}, ok, list{x.must}, x.ok)
		}
	}
	for _, none := range [][]api.Msg{nil, {}, l[:0], l[1:]} {
		if got, ok := buf.Find(none, ""); got != (api.Msg{}) || ok {
			t.Errorf("Find(%v, no byte) = %v, %v", list(none), list{got}, ok)
		}
	}
}

func TestFindInAllSmallBuffers(t *testing.T) {
	for _, l := range buffers(some, "v") {
		for _, key := range keys {
			find(t, l, key)
		}
		if t.Failed() {
			t.FailNow()
		}
	}
}

func TestFindInGreatBuffers(t *testing.T) {
	for _, n := range []int{1, 2, 3, 31, 32, 33, 511, 512, 513, 1000} {
		l := random(rand.New(rand.NewSource(int64(n))), n)
		for _, m := range l {
			find(t, l, m.Key)
			find(t, l, m.Key+"\x00")
		}
	}
}

func TestPut(t *testing.T) {
	b, d := put("b", "2"), put("d", "4")
	for _, x := range []struct {
		l    []api.Msg
		m    api.Msg
		must []api.Msg
	}{
		{nil, b, []api.Msg{b}}, {[]api.Msg{}, del("b"), []api.Msg{del("b")}}, {nil, api.Msg{}, []api.Msg{{}}},
		{[]api.Msg{b, d}, put("a", "1"), []api.Msg{put("a", "1"), b, d}},
		{[]api.Msg{b, d}, put("c", ""), []api.Msg{b, put("c", ""), d}},
		{[]api.Msg{b, d}, del("e"), []api.Msg{b, d, del("e")}},
		{[]api.Msg{b, d}, put("b", "3"), []api.Msg{put("b", "3"), d}},
		{[]api.Msg{b, d}, put("d", "3"), []api.Msg{b, put("d", "3")}},
		{[]api.Msg{b, d}, del("b"), []api.Msg{del("b"), d}},
		{[]api.Msg{b, del("d")}, d, []api.Msg{b, d}},
		{[]api.Msg{b, d}, b, []api.Msg{b, d}},
		{[]api.Msg{b, d}, put("b", ""), []api.Msg{put("b", ""), d}},
		{[]api.Msg{b, d}, put("b\x00", "3"), []api.Msg{b, put("b\x00", "3"), d}},
		{[]api.Msg{b, d}, put("", "0"), []api.Msg{put("", "0"), b, d}},
		// Whatever a message has is put.
		{[]api.Msg{b, d}, api.Msg{Key: "d", Del: true, Val: "x"}, []api.Msg{b, {Key: "d", Del: true, Val: "x"}}},
	} {
		want(t, buf.Put(x.l, x.m), x.must, "Put(%v, %v)", list(x.l), list{x.m})
	}
}

func TestPutIntoAllSmallBuffers(t *testing.T) {
	for _, l := range buffers(some, "old") {
		for _, key := range keys {
			for _, m := range kinds(key, "new") {
				got := buf.Put(l, m)
				want(t, got, laid(l, []api.Msg{m}), "Put(%v, %v)", list(l), list{m})
				if !buf.Right(got) {
					t.Errorf("Put(%v, %v) = %v", list(l), list{m}, list(got))
				}
			}
		}
		if t.Failed() {
			t.FailNow()
		}
	}
}

func TestPutManyOneByOne(t *testing.T) {
	r := rand.New(rand.NewSource(10))
	var l, all []api.Msg
	for i := range 2000 {
		m := put(randomKey(r), fmt.Sprint(i))
		if r.Intn(4) == 0 {
			m = del(m.Key)
		}
		l, all = buf.Put(l, m), append(all, m)
		if i%50 == 0 {
			want(t, l, laid(all), "%d messages, one by one", i+1)
		}
	}
	want(t, l, laid(all), "all messages, one by one")
	if len(l) < 600 {
		t.Errorf("no more than %d keys", len(l))
	}
}

func TestMerge(t *testing.T) {
	for _, x := range []struct{ newer, older, must []api.Msg }{
		{nil, nil, nil}, {[]api.Msg{}, nil, nil}, {nil, []api.Msg{}, nil},
		{[]api.Msg{put("a", "1")}, nil, []api.Msg{put("a", "1")}}, {nil, []api.Msg{put("a", "1")}, []api.Msg{put("a", "1")}},
		{[]api.Msg{put("a", "1")}, []api.Msg{put("b", "2")}, []api.Msg{put("a", "1"), put("b", "2")}},
		{[]api.Msg{put("b", "2")}, []api.Msg{put("a", "1")}, []api.Msg{put("a", "1"), put("b", "2")}},
		{[]api.Msg{put("a", "1")}, []api.Msg{put("a", "2")}, []api.Msg{put("a", "1")}},
		{[]api.Msg{put("a", "2")}, []api.Msg{put("a", "1")}, []api.Msg{put("a", "2")}},
		{[]api.Msg{del("a")}, []api.Msg{put("a", "1")}, []api.Msg{del("a")}},
		{[]api.Msg{put("a", "1")}, []api.Msg{del("a")}, []api.Msg{put("a", "1")}},
		{[]api.Msg{put("a", "")}, []api.Msg{put("a", "1")}, []api.Msg{put("a", "")}},
		{[]api.Msg{put("b", "n")}, []api.Msg{put("a", "o"), put("b", "o"), put("c", "o")}, []api.Msg{put("a", "o"), put("b", "n"), put("c", "o")}},
		{[]api.Msg{put("a", "n"), put("b", "n"), put("c", "n")}, []api.Msg{put("b", "o")}, []api.Msg{put("a", "n"), put("b", "n"), put("c", "n")}},
		{[]api.Msg{put("a", "n"), put("c", "n")}, []api.Msg{put("b", "o"), put("d", "o")}, []api.Msg{put("a", "n"), put("b", "o"), put("c", "n"), put("d", "o")}},
		{[]api.Msg{put("", "n"), put("a\x00", "n")}, []api.Msg{put("a", "o"), put("a\x00", "o"), put("\xff", "o")}, []api.Msg{put("", "n"), put("a", "o"), put("a\x00", "n"), put("\xff", "o")}},
	} {
		want(t, buf.Merge(x.newer, x.older), x.must, "Merge(%v, %v)", list(x.newer), list(x.older))
	}
}

// merge holds Merge against what both lists have, and against messages put one by one.
func merge(t *testing.T, newer, older []api.Msg) {
	t.Helper()
	got := buf.Merge(newer, older)
	want(t, got, laid(older, newer), "Merge(%v, %v)", list(newer), list(older))
	one := older
	for _, m := range newer {
		one = buf.Put(one, m)
	}
	want(t, one, got, "%v, one by one into %v", list(newer), list(older))
	if !buf.Right(got) || !buf.Same(got, one) {
		t.Errorf("Merge(%v, %v) = %v", list(newer), list(older), list(got))
	}
}

func TestMergeOfAllSmallBuffers(t *testing.T) {
	older := buffers(some[1:], "old")
	for _, n := range buffers(some[:4], "new") {
		for _, o := range older {
			merge(t, n, o)
		}
		if t.Failed() {
			t.FailNow()
		}
	}
}

func TestMergeOfGreatBuffers(t *testing.T) {
	r := rand.New(rand.NewSource(11))
	for _, n := range []int{0, 1, 2, 63, 511, 512, 600} {
		for _, o := range []int{0, 1, 2, 64, 511, 512, 600} {
			merge(t, random(r, n), random(r, o))
		}
	}
}

// Of three buffers it is all one which two are merged first.
func TestMergeOfThree(t *testing.T) {
	r := rand.New(rand.NewSource(12))
	for range 200 {
		a, b, c := random(r, r.Intn(40)), random(r, r.Intn(200)), random(r, r.Intn(600))
		want(t, buf.Merge(a, buf.Merge(b, c)), laid(c, b, a), "the last two first")
		want(t, buf.Merge(buf.Merge(a, b), c), laid(c, b, a), "the first two first")
	}
}

func TestPart(t *testing.T) {
	a, b, c, d := put("a", "1"), del("b"), put("c", "3"), put("d", "4")
	l := []api.Msg{a, b, c, d}
	for _, x := range []struct {
		s    api.Span
		must []api.Msg
	}{
		{span("", "z"), l}, {api.Span{Top: true}, l}, {span("a", "e"), l}, {span("a", "d\x00"), l}, {from("a"), l},
		{span("b", "d"), []api.Msg{b, c}}, {span("a\x00", "c\x00"), []api.Msg{b, c}}, {span("a", "b"), []api.Msg{a}},
		{span("", "b"), []api.Msg{a}}, {span("", "b\x00"), []api.Msg{a, b}}, {from("c"), []api.Msg{c, d}}, {from("c\x00"), []api.Msg{d}}, {from("d"), []api.Msg{d}},
		{api.Span{Lo: "c", Hi: "a", Top: true}, []api.Msg{c, d}}, {api.Span{Lo: "b", Hi: "c", Top: true}, []api.Msg{b, c, d}},
		{from("d\x00"), nil}, {span("", "a"), nil}, {span("e", "z"), nil}, {span("a\x00", "b"), nil},
		{api.Span{}, nil}, {span("b", "b"), nil}, {span("c", "a"), nil}, {span("z", ""), nil}, {span("d\x00", "a"), nil},
	} {
		want(t, buf.Part(l, x.s), x.must, "Part(%v, %#v)", list(l), x.s)
		want(t, buf.Part(nil, x.s), nil, "Part of nothing, %#v", x.s)
	}
}

func TestTake(t *testing.T) {
	a, b, c, d := put("a", "1"), del("b"), put("c", "3"), put("d", "4")
	l := []api.Msg{a, b, c, d}
	for _, x := range []struct {
		s           api.Span
		most        int
		taken, rest []api.Msg
	}{
		{from(""), 4, l, nil}, {from(""), 3, []api.Msg{a, b, c}, []api.Msg{d}}, {from(""), 5, l, nil}, {from(""), math.MaxInt, l, nil},
		{from(""), 1, []api.Msg{a}, []api.Msg{b, c, d}}, {from(""), 0, nil, l}, {from(""), -1, nil, l}, {from(""), math.MinInt, nil, l},
		{span("b", "d"), 1, []api.Msg{b}, []api.Msg{a, c, d}}, {span("b", "d"), 2, []api.Msg{b, c}, []api.Msg{a, d}},
		{span("b", "d"), 3, []api.Msg{b, c}, []api.Msg{a, d}}, {span("b", "d"), math.MaxInt, []api.Msg{b, c}, []api.Msg{a, d}},
		{span("b", "d"), 0, nil, l}, {span("b", "d"), -5, nil, l}, {span("b", "d"), math.MinInt, nil, l},
		{from("c"), 1, []api.Msg{c}, []api.Msg{a, b, d}}, {from("d"), math.MaxInt, []api.Msg{d}, []api.Msg{a, b, c}},
		{from("e"), 9, nil, l}, {span("", "a"), 9, nil, l}, {span("c", "a"), 9, nil, l}, {span("c", "a"), math.MaxInt, nil, l}, {span("b", "b"), 9, nil, l}, {api.Span{}, 9, nil, l},
		{api.Span{Lo: "c", Hi: "a", Top: true}, 9, []api.Msg{c, d}, []api.Msg{a, b}},
	} {
		taken, rest := buf.Take(l, x.s, x.most)
		want(t, taken, x.taken, "Take(%v, %#v, %d)", list(l), x.s, x.most)
		want(t, rest, x.rest, "what Take(%v, %#v, %d) leaves", list(l), x.s, x.most)
		taken, rest = buf.Take(nil, x.s, x.most)
		want(t, append(taken, rest...), nil, "Take of nothing, %#v, %d", x.s, x.most)
	}
}

// take holds Part and Take of a span against a search through all; both parts, merged, are the buffer, whichever is the newer one.
func take(t *testing.T, l []api.Msg, s api.Span) {
	t.Helper()
	wanted := func(key string) bool { return has(s, key) }
	part, _ := parted(l, wanted, len(l))
	want(t, buf.Part(l, s), part, "Part(%v, %#v)", list(l), s)
	for _, most := range []int{math.MinInt, -1, 0, 1, 2, len(part) - 1, len(part), len(part) + 1, math.MaxInt} {
		in, out := parted(l, wanted, most)
		taken, rest := buf.Take(l, s, most)
		want(t, taken, in, "Take(%v, %#v, %d)", list(l), s, most)
		want(t, rest, out, "what Take(%v, %#v, %d) leaves", list(l), s, most)
		want(t, buf.Merge(taken, rest), l, "Take(%v, %#v, %d), merged", list(l), s, most)
		want(t, buf.Merge(rest, taken), l, "Take(%v, %#v, %d), merged the other way", list(l), s, most)
	}
}

func TestTakeOfAllSmallBuffers(t *testing.T) {
	ends := []string{"", "\x00", "a", "a\x00", "ab", "b", "\xff", "\xff\xff"}
	for _, l := range sets(some) {
		for _, s := range spans(ends) {
			take(t, l, s)
		}
		if t.Failed() {
			t.FailNow()
		}
	}
}

func TestTakeOfGreatBuffers(t *testing.T) {
	r := rand.New(rand.NewSource(13))
	for _, n := range []int{1, 2, 64, 511, 512, 700} {
		l := random(r, n)
		for range 100 {
			lo, hi := l[r.Intn(n)].Key, l[r.Intn(n)].Key
			take(t, l, span(lo, hi))
			take(t, l, span(min(lo, hi), max(lo, hi)+"\x00"))
			take(t, l, api.Span{Lo: randomKey(r), Hi: randomKey(r), Top: r.Intn(2) == 0})
		}
		take(t, l, from(""))
	}
}

func TestSplit(t *testing.T) {
	a, b, c := put("a", "1"), del("b"), put("c", "3")
	l := []api.Msg{a, b, c}
	for _, x := range []struct {
		key         string
		below, rest []api.Msg
	}{
		{"", nil, l}, {"A", nil, l}, {"a", nil, l}, {"a\x00", []api.Msg{a}, []api.Msg{b, c}}, {"b", []api.Msg{a}, []api.Msg{b, c}},
		{"b\x00", []api.Msg{a, b}, []api.Msg{c}}, {"c", []api.Msg{a, b}, []api.Msg{c}}, {"c\x00", l, nil}, {"\xff", l, nil},
	} {
		below, rest := buf.Split(l, x.key)
		want(t, below, x.below, "below Split(%v, %q)", list(l), x.key)
		want(t, rest, x.rest, "the rest of Split(%v, %q)", list(l), x.key)
		below, rest = buf.Split(nil, x.key)
		want(t, append(below, rest...), nil, "Split of nothing, %q", x.key)
	}
}

// split holds Split against a search through all; both parts, merged, are the buffer.
func split(t *testing.T, l []api.Msg, key string) {
	t.Helper()
	ahead, others := parted(l, func(k string) bool { return order(k, key) < 0 }, len(l))
	below, rest := buf.Split(l, key)
	want(t, below, ahead, "below Split(%v, %q)", list(l), key)
	want(t, rest, others, "the rest of Split(%v, %q)", list(l), key)
	want(t, buf.Merge(below, rest), l, "Split(%v, %q), merged", list(l), key)
	want(t, buf.Merge(rest, below), l, "Split(%v, %q), merged the other way", list(l), key)
}

func TestSplitOfAllSmallBuffers(t *testing.T) {
	for _, l := range buffers(some, "v") {
		for _, key := range keys {
			split(t, l, key)
		}
		if t.Failed() {
			t.FailNow()
		}
	}
}

func TestSplitOfGreatBuffers(t *testing.T) {
	r := rand.New(rand.NewSource(14))
	for _, n := range []int{1, 2, 64, 511, 512, 700} {
		l := random(r, n)
		for range 200 {
			split(t, l, l[r.Intn(n)].Key)
			split(t, l, randomKey(r))
		}
	}
}

// room is a list in the midst of memory that has more, and that whole memory.
func room(l []api.Msg) (part, all []api.Msg) {
	all = append([]api.Msg{put("ahead", "x")}, l...)
	all = append(all, put("spare", "y"), del("room"), put("", "z"))
	return all[1 : 1+len(l)], all
}

// spoil changes all that a list's asker may change, its spare room included.
func spoil(l []api.Msg) {
	l = l[:cap(l)]
	for i := range l {
		l[i] = api.Msg{Key: "spoilt", Del: true, Val: "spoilt"}
	}
}

// Nothing that is handed in changes in a call, nor when what was told is changed; nor do two lists that one call tells have anything in common.
func TestMemory(t *testing.T) {
	long := random(rand.New(rand.NewSource(15)), 40)
	other := random(rand.New(rand.NewSource(16)), 40)
	for _, x := range []struct {
		name string
		call func(l, o []api.Msg) [][]api.Msg
	}{
		{"Right, Same, Find", func(l, o []api.Msg) [][]api.Msg {
			buf.Right(l)
			buf.Same(l, o)
			buf.Find(l, "b")
			return nil
		}},
		{"Put of a new key", func(l, o []api.Msg) [][]api.Msg { return [][]api.Msg{buf.Put(l, put("new", "1"))} }},
		{"Put of the first key", func(l, o []api.Msg) [][]api.Msg { return [][]api.Msg{buf.Put(l, put("", "1"))} }},
		{"Put of the last key", func(l, o []api.Msg) [][]api.Msg { return [][]api.Msg{buf.Put(l, del("\xff\xff\xff"))} }},
		{"Put of a key that is there", func(l, o []api.Msg) [][]api.Msg {
			return [][]api.Msg{buf.Put(l, del(slices.Concat(l, []api.Msg{put("b", "")})[0].Key))}
		}},
		{"Merge", func(l, o []api.Msg) [][]api.Msg { return [][]api.Msg{buf.Merge(l, o), buf.Merge(o, l)} }},
		{"Merge with itself", func(l, o []api.Msg) [][]api.Msg { return [][]api.Msg{buf.Merge(l, l), buf.Merge(o, o)} }},
		{"Merge with nothing", func(l, o []api.Msg) [][]api.Msg { return [][]api.Msg{buf.Merge(l, nil), buf.Merge(nil, l)} }},
		{"Part", func(l, o []api.Msg) [][]api.Msg { return [][]api.Msg{buf.Part(l, span("a", "k"))} }},
		{"Part of all", func(l, o []api.Msg) [][]api.Msg { return [][]api.Msg{buf.Part(l, from(""))} }},
		{"Part of none", func(l, o []api.Msg) [][]api.Msg { return [][]api.Msg{buf.Part(l, span("k", "a"))} }},
		{"Take", func(l, o []api.Msg) [][]api.Msg {
			taken, rest := buf.Take(l, span("a", "\xff"), 2)
			return [][]api.Msg{taken, rest}
		}},
		{"Take of all", func(l, o []api.Msg) [][]api.Msg {
			taken, rest := buf.Take(l, from(""), len(l))
			return [][]api.Msg{taken, rest}
		}},
		{"Take of none", func(l, o []api.Msg) [][]api.Msg {
			taken, rest := buf.Take(l, from(""), 0)
			return [][]api.Msg{taken, rest}
		}},
		{"Split", func(l, o []api.Msg) [][]api.Msg {
			below, rest := buf.Split(l, "k")
			return [][]api.Msg{below, rest}
		}},
		{"Split below all", func(l, o []api.Msg) [][]api.Msg {
			below, rest := buf.Split(l, "")
			return [][]api.Msg{below, rest}
		}},
		{"Split behind all", func(l, o []api.Msg) [][]api.Msg {
			below, rest := buf.Split(l, "\xff\xff\xff")
			return [][]api.Msg{below, rest}
		}},
	} {
		for _, l := range [][]api.Msg{nil, long[:1], long[:2], {put("a", "1"), del("b"), put("z", "2")}, long} {
			for _, o := range [][]api.Msg{nil, l, other} {
				apart(t, x.name, l, o, x.call)
			}
		}
	}
}

// apart holds what a call was handed, and what it told, against what all of these were, while what it told is spoilt list by list.
func apart(t *testing.T, name string, l, o []api.Msg, call func(l, o []api.Msg) [][]api.Msg) {
	t.Helper()
	mine, mineAll := room(l)
	others, othersAll := room(o)
	mineWas, othersWas := slices.Clone(mineAll), slices.Clone(othersAll)
	told := call(mine, others)
	toldWas := make([][]api.Msg, len(told))
	for i := range told {
		toldWas[i] = slices.Clone(told[i])
	}
	for i := range told {
		for j := i; j < len(told); j++ {
			want(t, told[j], toldWas[j], "%s: list %d, when %d lists were changed,", name, j, i)
		}
		spoil(told[i])
	}
	want(t, mineAll, mineWas, "%s: what was handed in", name)
	want(t, othersAll, othersWas, "%s: what was handed in last", name)
	// What is handed in isn't kept: the same call tells the same once more, and whoever handed it in may change it behind that.
	again := call(mine, others)
	spoil(mine)
	spoil(others)
	for i := range again {
		want(t, again[i], toldWas[i], "%s: list %d, when what was handed in was changed,", name, i)
	}
}

// Of lists that are no buffers it is free what is told, but each call ends, and nothing handed in changes.
func TestOtherListsEnd(t *testing.T) {
	var lists [][]api.Msg
	for _, row := range rows([]string{"", "a", "b", "\xff"}, 3) {
		var l []api.Msg
		for i, key := range row {
			l = append(l, kinds(key, "v")[i%3])
		}
		lists = append(lists, l)
	}
	back := random(rand.New(rand.NewSource(17)), 300)
	slices.Reverse(back)
	lists = append(lists, back, slices.Concat(back, back), slices.Repeat(back[:1], 600))
	for _, l := range lists {
		odd, all := room(l)
		was := slices.Clone(all)
		for _, key := range some {
			buf.Find(odd, key)
			buf.Put(odd, put(key, "n"))
			buf.Split(odd, key)
		}
		for _, s := range spans(some) {
			buf.Part(odd, s)
			for _, most := range []int{math.MinInt, -1, 0, 1, 2, 300, math.MaxInt} {
				buf.Take(odd, s, most)
			}
		}
		for _, o := range lists[len(lists)-20:] {
			buf.Merge(odd, o)
			buf.Merge(o, odd)
		}
		want(t, all, was, "what was handed in")
	}
}
