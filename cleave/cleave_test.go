package cleave_test

import (
	"fmt"
	"math"
	"math/rand"
	"slices"
	"strings"
	"testing"

	"sluicegate/api"
	"sluicegate/cleave"
	"sluicegate/conf"
	"sluicegate/lex"
	"sluicegate/node"
)

// few, many and some are settings: such that nodes have as little room as may be, as much as may be, and some between, by odd numbers.
var (
	few  = api.Config{Blocks: 65536, Bytes: 212, Frames: 8, Fan: 8, Buffer: 16, Leaf: 16, Key: 3, Val: 2}
	many = api.Config{Blocks: 65536, Bytes: 65536, Frames: 64, Fan: 64, Buffer: 512, Leaf: 1024, Key: 30, Val: 30}
	some = api.Config{Blocks: 65536, Bytes: 4096, Frames: 8, Fan: 11, Buffer: 23, Leaf: 37, Key: 3, Val: 3}
)

// leafOf is a leaf of keys, each with a value of its own.
func leafOf(keys ...string) api.Node {
	var n api.Node
	for _, key := range keys {
		n.Pairs = append(n.Pairs, api.Pair{Key: key, Val: mark(key)})
	}
	return n
}

// inner is a node of a level, of kids in no order, with pivots between them, and messages, each with a value of its own, or each third one Del.
func inner(level int, pivots []string, keys ...string) api.Node {
	n := api.Node{Level: level, Pivots: slices.Clone(pivots)}
	for i := range len(pivots) + 1 {
		n.Kids = append(n.Kids, uint32(1000+i*7%64))
	}
	for i, key := range keys {
		m := api.Msg{Key: key, Val: mark(key)}
		if i%3 == 2 {
			m = api.Msg{Key: key, Del: true}
		}
		n.Buf = append(n.Buf, m)
	}
	return n
}

// mark is a value of up to two bytes, alike for few keys.
func mark(key string) string {
	sum := len(key)
	for i := range len(key) {
		sum = sum*31 + int(key[i])
	}
	return string([]byte{byte(sum), byte(sum >> 8)}[:sum%3])
}

// others is a node like that one, with all its kids other blocks.
func others(n api.Node) api.Node {
	n.Kids = slices.Clone(n.Kids)
	for i := range n.Kids {
		n.Kids[i] += 20000
	}
	return n
}

// text is the i-th of texts of three bytes, by rising ones.
func text(i int) string {
	return string([]byte{byte(i>>8) + 1, byte(i), byte(i * 5)})
}

// texts are the texts from the first number on, below the other one, by so many.
func texts(from, below, by int) []string {
	var l []string
	for i := from; i < below; i += by {
		l = append(l, text(i))
	}
	return l
}

// told is a node as a text, short enough to read.
func told(n api.Node) string {
	return fmt.Sprintf("(Level %d, %d Kids %v, %d Pivots %q, %d in Buf %#v, %d Pairs %#v)", n.Level,
		len(n.Kids), n.Kids[:min(len(n.Kids), 12)], len(n.Pivots), n.Pivots[:min(len(n.Pivots), 12)],
		len(n.Buf), n.Buf[:min(len(n.Buf), 12)], len(n.Pairs), n.Pairs[:min(len(n.Pairs), 12)])
}

// alike tells whether nodes are alike; nil and empty lists are.
func alike(a, b api.Node) bool {
	return a.Level == b.Level && slices.Equal(a.Kids, b.Kids) && slices.Equal(a.Pivots, b.Pivots) &&
		slices.Equal(a.Buf, b.Buf) && slices.Equal(a.Pairs, b.Pairs)
}

// below and behind are the spans on both sides of a pivot.
func below(s api.Span, pivot string) api.Span  { return api.Span{Lo: s.Lo, Hi: pivot} }
func behind(s api.Span, pivot string) api.Span { return api.Span{Lo: pivot, Hi: s.Hi, Top: s.Top} }

// refused holds that a node isn't parted, and that nothing else is told.
func refused(t *testing.T, n api.Node) {
	t.Helper()
	a, b, pivot, ok := cleave.Halve(n)
	if ok || pivot != "" || !alike(a, api.Node{}) || !alike(b, api.Node{}) {
		t.Fatalf("Halve(%s) = %s, %s, %q, %v", told(n), told(a), told(b), pivot, ok)
	}
}

func TestHalveOfNothing(t *testing.T) {
	for _, n := range []api.Node{{}, {Pairs: []api.Pair{}}, leafOf("a"), leafOf("abc"), {Pairs: []api.Pair{{Key: "a", Val: "123"}}}} {
		refused(t, n)
	}
	for _, level := range []int{1, 2, 39, 40} {
		refused(t, inner(level, nil))
		refused(t, inner(level, nil, "a"))
		refused(t, inner(level, nil, texts(0, 512, 1)...))
		refused(t, api.Node{Level: level})
		refused(t, api.Node{Level: level, Kids: []uint32{}, Pivots: []string{}})
	}
}

func TestHalveOfLeaves(t *testing.T) {
	l := strings.Fields
	for _, x := range []struct {
		all, a, b, pivot string
	}{
		{"a b", "a", "b", "b"}, {"a ab", "a", "ab", "ab"}, {"a abc", "a", "abc", "ab"}, {"abc abx", "abc", "abx", "abx"}, {"abc bcd", "abc", "bcd", "b"},
		{"a b c", "a b", "c", "c"}, {"a ab b", "a ab", "b", "b"}, {"a b bcd", "a b", "bcd", "bc"},
		{"a b c d", "a b", "c d", "c"}, {"a b c d e", "a b c", "d e", "d"}, {"a b c d e f", "a b c", "d e f", "d"}, {"a b c d e f g", "a b c d", "e f g", "e"},
		{"a \x7f \x80\x80 \xff", "a \x7f", "\x80\x80 \xff", "\x80"},
	} {
		a, b, pivot, ok := cleave.Halve(leafOf(l(x.all)...))
		if !alike(a, leafOf(l(x.a)...)) || !alike(b, leafOf(l(x.b)...)) || pivot != x.pivot || !ok {
			t.Errorf("Halve of %q = %s, %s, %q, %v", x.all, told(a), told(b), pivot, ok)
		}
	}
}

func TestHalveOfOthers(t *testing.T) {
	msgs := func(l ...api.Msg) []api.Msg { return l }
	m := func(key string) api.Msg { return api.Msg{Key: key, Val: "v" + key} }
	d := func(key string) api.Msg { return api.Msg{Key: key, Del: true} }
	kids := func(l ...uint32) []uint32 { return l }
	pivots := func(l ...string) []string { return l }
	for _, x := range []struct {
		n, a, b api.Node
		pivot   string
	}{
		// The chapter's example.
		{api.Node{Kids: kids(4, 7, 2), Pivots: pivots("b", "d"), Buf: msgs(m("a"), m("c"), m("e"))}, api.Node{Kids: kids(4, 7), Pivots: pivots("b"), Buf: msgs(m("a"), m("c"))}, api.Node{Kids: kids(2), Buf: msgs(m("e"))}, "d"},
		{api.Node{Kids: kids(1, 2), Pivots: pivots("b")}, api.Node{Kids: kids(1)}, api.Node{Kids: kids(2)}, "b"},
		{api.Node{Kids: kids(9, 2), Pivots: pivots("b"), Buf: msgs(m("a"), d("az"), m("b"), d("ba"))}, api.Node{Kids: kids(9), Buf: msgs(m("a"), d("az"))}, api.Node{Kids: kids(2), Buf: msgs(m("b"), d("ba"))}, "b"},
		{api.Node{Kids: kids(9, 2), Pivots: pivots("b"), Buf: msgs(m("b"))}, api.Node{Kids: kids(9)}, api.Node{Kids: kids(2), Buf: msgs(m("b"))}, "b"},
		{api.Node{Kids: kids(9, 2), Pivots: pivots("b"), Buf: msgs(d("a\xff"))}, api.Node{Kids: kids(9), Buf: msgs(d("a\xff"))}, api.Node{Kids: kids(2)}, "b"},
		// The pivot isn't made anew: it is the one that stands there, whatever keys wait.
		{api.Node{Kids: kids(9, 2), Pivots: pivots("bcd"), Buf: msgs(m("bcc"), m("x"))}, api.Node{Kids: kids(9), Buf: msgs(m("bcc"))}, api.Node{Kids: kids(2), Buf: msgs(m("x"))}, "bcd"},
		// Kids count, not what waits for them.
		{api.Node{Kids: kids(4, 7, 2), Pivots: pivots("b", "d"), Buf: msgs(m("d"), m("e"), m("f"))}, api.Node{Kids: kids(4, 7), Pivots: pivots("b")}, api.Node{Kids: kids(2), Buf: msgs(m("d"), m("e"), m("f"))}, "d"},
		{api.Node{Kids: kids(4, 7, 2, 5), Pivots: pivots("b", "d", "f"), Buf: msgs(m("a"), m("b"), m("d"), m("f"))}, api.Node{Kids: kids(4, 7), Pivots: pivots("b"), Buf: msgs(m("a"), m("b"))}, api.Node{Kids: kids(2, 5), Pivots: pivots("f"), Buf: msgs(m("d"), m("f"))}, "d"},
		{api.Node{Kids: kids(5, 4, 3, 2, 1), Pivots: pivots("b", "d", "f", "h"), Buf: msgs(d("ez"), m("f"), m("fa"))}, api.Node{Kids: kids(5, 4, 3), Pivots: pivots("b", "d"), Buf: msgs(d("ez"))}, api.Node{Kids: kids(2, 1), Pivots: pivots("h"), Buf: msgs(m("f"), m("fa"))}, "f"},
		{api.Node{Kids: kids(5, 4, 3, 2, 1, 8), Pivots: pivots("b", "d", "f", "h", "j")}, api.Node{Kids: kids(5, 4, 3), Pivots: pivots("b", "d")}, api.Node{Kids: kids(2, 1, 8), Pivots: pivots("h", "j")}, "f"},
		{api.Node{Kids: kids(1, 2), Pivots: pivots("\x80"), Buf: msgs(m("\x7f"), m("\x7f\xff"), m("\x80"))}, api.Node{Kids: kids(1), Buf: msgs(m("\x7f"), m("\x7f\xff"))}, api.Node{Kids: kids(2), Buf: msgs(m("\x80"))}, "\x80"},
	} {
		for _, level := range []int{1, 2, 40} {
			x.n.Level, x.a.Level, x.b.Level = level, level, level
			a, b, pivot, ok := cleave.Halve(x.n)
			if !alike(a, x.a) || !alike(b, x.b) || pivot != x.pivot || !ok {
				t.Errorf("Halve(%s) = %s, %s, %q, %v", told(x.n), told(a), told(b), pivot, ok)
			}
			halve(t, many, lex.All(), x.n)
		}
	}
}

// halve holds Halve of a node, right for settings and a span, against what the document says of it (P14.1, P14.4, P14.5).
func halve(t *testing.T, c api.Config, s api.Span, n api.Node) {
	t.Helper()
	if conf.Check(c) != api.OK || !node.Right(c, s, n) {
		t.Fatalf("%s is not right for %+v, %+v", told(n), c, s)
	}
	if len(n.Pairs)+len(n.Kids) < 2 {
		refused(t, n)
		return
	}
	a, b, pivot, ok := cleave.Halve(n)
	tell := fmt.Sprintf("Halve(%s) = %s, %s, %q, %v", told(n), told(a), told(b), pivot, ok)
	if more := len(a.Kids) + len(a.Pairs) - len(b.Kids) - len(b.Pairs); !ok || more != 0 && more != 1 {
		t.Fatalf("%s: no halves", tell)
	}
	if n.Level == 0 {
		halfLeaves(t, tell, n, a, b, pivot)
	} else {
		halfOthers(t, tell, n, a, b, pivot)
	}
	if !node.Right(c, below(s, pivot), a) || !node.Right(c, behind(s, pivot), b) {
		t.Fatalf("%s: not right", tell)
	}
	if back, ok := cleave.Join(a, pivot, b); !ok || !alike(back, n) || !node.Same(back, n) {
		t.Fatalf("%s: joined %s, %v", tell, told(back), ok)
	}
}

// halfLeaves holds the halves of a leaf, and their pivot, against the leaf.
func halfLeaves(t *testing.T, tell string, n, a, b api.Node, pivot string) {
	t.Helper()
	k := len(a.Pairs)
	if a.Level != 0 || b.Level != 0 || !slices.Equal(a.Pairs, n.Pairs[:k]) || !slices.Equal(b.Pairs, n.Pairs[k:]) {
		t.Fatalf("%s: not its pairs", tell)
	}
	if must, _ := lex.Cut(n.Pairs[k-1].Key, n.Pairs[k].Key); pivot != must {
		t.Fatalf("%s: the pivot is not %q", tell, must)
	}
}

// halfOthers holds the halves of a node that is no leaf, and their pivot, against the node.
func halfOthers(t *testing.T, tell string, n, a, b api.Node, pivot string) {
	t.Helper()
	k := len(a.Kids)
	if a.Level != n.Level || b.Level != n.Level || !slices.Equal(a.Kids, n.Kids[:k]) || !slices.Equal(b.Kids, n.Kids[k:]) {
		t.Fatalf("%s: not its kids", tell)
	}
	if len(a.Pivots) != k-1 || !slices.Equal(append(append(slices.Clone(a.Pivots), pivot), b.Pivots...), n.Pivots) {
		t.Fatalf("%s: not its pivots", tell)
	}
	var ahead, rest []api.Msg
	for _, m := range n.Buf {
		if m.Key < pivot {
			ahead = append(ahead, m)
		} else {
			rest = append(rest, m)
		}
	}
	if !slices.Equal(a.Buf, ahead) || !slices.Equal(b.Buf, rest) {
		t.Fatalf("%s: not its messages", tell)
	}
}

// sets are all lists of some keys in order, each with that key or without it.
func sets(of ...string) [][]string {
	all := [][]string{nil}
	for _, key := range of {
		for _, l := range all {
			all = append(all, append(slices.Clone(l), key))
		}
	}
	return all
}

func TestHalveOfAllSmallLeaves(t *testing.T) {
	for _, keys := range sets("\x00", "a", "a\x00", "ab", "abc", "b", "\x7f", "\x80", "\xff", "\xff\xff") {
		halve(t, some, lex.All(), leafOf(keys...))
		halve(t, some, api.Span{Lo: "\x00", Hi: "\xff\xff\x00"}, leafOf(keys...))
	}
}

func TestHalveOfAllSmallNodes(t *testing.T) {
	keys := sets("\x00", "a", "a\x00", "ab", "b", "\x80", "\xff")
	for _, pivots := range sets("a", "a\x00", "ab", "b", "\x80", "\xff") {
		for _, l := range keys {
			n := inner(1+len(l), pivots, l...)
			halve(t, some, lex.All(), n)
			halve(t, some, api.Span{Lo: "\x00", Hi: "\xff\x00"}, n)
			halve(t, some, api.Span{Lo: "\x00", Hi: "a", Top: true}, n)
		}
	}
}

// All counts of kids and of pairs that may be, with no messages, some, and as many as may be.
func TestHalveOfAllSizes(t *testing.T) {
	for _, c := range []api.Config{some, many} {
		for pairs := range c.Leaf + 1 {
			if pairs < 70 || pairs%97 == 0 || pairs > c.Leaf-3 {
				halve(t, c, lex.All(), leafOf(texts(0, pairs, 1)...))
			}
		}
		for kids := 1; kids <= c.Fan; kids++ {
			pivots := texts(8, 8*kids, 8)
			for _, msgs := range []int{0, 1, c.Buffer / 2, c.Buffer} {
				halve(t, c, lex.All(), inner(api.MaxLevel, pivots, texts(0, msgs, 1)...))
				halve(t, c, lex.All(), inner(1, pivots, texts(4*kids-msgs/2+1000, 4*kids-msgs/2+1000+msgs, 1)...))
			}
		}
	}
}

// A leaf is parted also where it has a pair or two more than may be, as a root's may for once.
func TestHalveOfFullLeaves(t *testing.T) {
	for _, c := range []api.Config{few, some, many} {
		for _, more := range []int{1, 2} {
			n := leafOf(texts(0, c.Leaf+more, 1)...)
			a, b, pivot, ok := cleave.Halve(n)
			k := (c.Leaf + more + 1) / 2
			if !ok || !slices.Equal(a.Pairs, n.Pairs[:k]) || !slices.Equal(b.Pairs, n.Pairs[k:]) || pivot <= text(k-1) || pivot > text(k) {
				t.Errorf("Halve of %d pairs = %s, %s, %q, %v", c.Leaf+more, told(a), told(b), pivot, ok)
			}
		}
	}
}

// random is a node of a span of such texts, right for settings.
func random(r *rand.Rand, c api.Config, from, below, level int) api.Node {
	pick := func(most int) []string {
		var l []string
		for _, i := range r.Perm(below - from)[:min(r.Intn(most+1), below-from)] {
			l = append(l, text(from + i)[:1+r.Intn(3)])
		}
		slices.Sort(l)
		return slices.Compact(l)
	}
	if level == 0 {
		return leafOf(pick(c.Leaf)...)
	}
	pivots := pick(c.Fan - 1)
	if len(pivots) > 0 && pivots[0] == text(from)[:1] {
		pivots = pivots[1:]
	}
	return inner(level, pivots, pick(c.Buffer)...)
}

func TestHalveOfManyNodes(t *testing.T) {
	r := rand.New(rand.NewSource(41))
	for _, c := range []api.Config{some, many} {
		for range 500 {
			// Texts from 256 on begin with a byte 2 at least, as far as they are cut.
			halve(t, c, api.Span{Lo: "\x02", Hi: "\x0a"}, random(r, c, 256, 256*9, r.Intn(4)))
		}
	}
}

// join holds Join of two nodes of one Level against what the document says of it.
func join(t *testing.T, a api.Node, pivot string, b api.Node) api.Node {
	t.Helper()
	got, ok := cleave.Join(a, pivot, b)
	must := api.Node{Level: a.Level}
	if a.Level == 0 {
		must.Pairs = append(append(must.Pairs, a.Pairs...), b.Pairs...)
	} else {
		must.Kids = append(append(must.Kids, a.Kids...), b.Kids...)
		must.Pivots = append(append(append(must.Pivots, a.Pivots...), pivot), b.Pivots...)
		must.Buf = append(append(must.Buf, a.Buf...), b.Buf...)
	}
	if !ok || !alike(got, must) {
		t.Fatalf("Join(%s, %q, %s) = %s, %v", told(a), pivot, told(b), told(got), ok)
	}
	return got
}

func TestJoin(t *testing.T) {
	l := strings.Fields
	for _, x := range []struct{ a, b, pivot, must string }{
		{"", "", "b", ""}, {"a", "", "b", "a"}, {"", "b", "b", "b"}, {"a", "b", "b", "a b"}, {"a b", "d", "c", "a b d"}, {"a b", "c d e", "c", "a b c d e"}, {"\x7f", "\x80 \xff", "\x80", "\x7f \x80 \xff"},
	} {
		a, b := leafOf(l(x.a)...), leafOf(l(x.b)...)
		if got := join(t, a, x.pivot, b); !alike(got, leafOf(l(x.must)...)) {
			t.Errorf("Join(%s, %q, %s) = %s", told(a), x.pivot, told(b), told(got))
		}
	}
	one := api.Node{Level: 3, Kids: []uint32{4, 7}, Pivots: []string{"b"}, Buf: []api.Msg{{Key: "a", Val: "1"}, {Key: "c", Del: true}}}
	two := api.Node{Level: 3, Kids: []uint32{2}, Buf: []api.Msg{{Key: "d", Val: ""}, {Key: "e", Val: "5"}}}
	tre := api.Node{Level: 3, Kids: []uint32{9, 1, 3}, Pivots: []string{"f", "h"}}
	for _, x := range []struct {
		a, b  api.Node
		pivot string
		must  api.Node
	}{
		{one, two, "d", api.Node{Level: 3, Kids: []uint32{4, 7, 2}, Pivots: []string{"b", "d"}, Buf: []api.Msg{{Key: "a", Val: "1"}, {Key: "c", Del: true}, {Key: "d", Val: ""}, {Key: "e", Val: "5"}}}},
		{one, tre, "ee", api.Node{Level: 3, Kids: []uint32{4, 7, 9, 1, 3}, Pivots: []string{"b", "ee", "f", "h"}, Buf: one.Buf}},
		{two, tre, "ee", api.Node{Level: 3, Kids: []uint32{2, 9, 1, 3}, Pivots: []string{"ee", "f", "h"}, Buf: two.Buf}},
		{api.Node{Level: 3, Kids: []uint32{8}}, api.Node{Level: 3, Kids: []uint32{5}}, "x", api.Node{Level: 3, Kids: []uint32{8, 5}, Pivots: []string{"x"}}},
		{api.Node{Level: 3, Kids: []uint32{8}}, one, "\x00", api.Node{Level: 3, Kids: []uint32{8, 4, 7}, Pivots: []string{"\x00", "b"}, Buf: one.Buf}},
	} {
		if got := join(t, x.a, x.pivot, x.b); !alike(got, x.must) {
			t.Errorf("Join(%s, %q, %s) = %s", told(x.a), x.pivot, told(x.b), told(got))
		}
	}
}

func TestUnlikeLevels(t *testing.T) {
	levels := []int{0, 1, 2, 3, 20, 39, 40}
	at := func(level int, key string) api.Node {
		if level == 0 {
			return leafOf(key)
		}
		return inner(level, nil, key)
	}
	for _, i := range levels {
		for _, k := range levels {
			a, b := at(i, "a"), others(at(k, "c"))
			got, ok := cleave.Join(a, "b", b)
			if ok != (i == k) || !ok && !alike(got, api.Node{}) {
				t.Errorf("Join(%s, b, %s) = %s, %v", told(a), told(b), told(got), ok)
			}
			if got := cleave.Fits(many, a, b); got != (i == k) {
				t.Errorf("Fits(%s, %s) = %v", told(a), told(b), got)
			}
		}
	}
	// An empty leaf has no pairs, and a node no more than one kid: they don't fit all the same.
	if got, ok := cleave.Join(api.Node{}, "b", inner(1, nil)); ok || !alike(got, api.Node{}) || cleave.Fits(many, api.Node{}, inner(1, nil)) || cleave.Fits(many, inner(1, nil), api.Node{}) {
		t.Error("a leaf, and another node")
	}
}

func TestJoinOfAllSmallLeaves(t *testing.T) {
	for _, keys := range sets("\x00", "a", "a\x00", "ab", "b", "\x7f", "\x80", "\xff") {
		for _, pivot := range []string{"a", "a\x00", "aa", "b", "\x80", "\xff", "\xff\xff"} {
			var a, b []string
			for _, key := range keys {
				if key < pivot {
					a = append(a, key)
				} else {
					b = append(b, key)
				}
			}
			join(t, leafOf(a...), pivot, leafOf(b...))
		}
	}
}

// neighbours are two nodes of so many kids (or, of leaves, pairs), and messages, and the pivot between them.
func neighbours(level, left, right, leftMsgs, rightMsgs int) (a api.Node, pivot string, b api.Node) {
	pivot = text(2000)
	if level == 0 {
		return leafOf(texts(2000-left, 2000, 1)...), pivot, leafOf(texts(2000, 2000+right, 1)...)
	}
	a = inner(level, texts(2000-left+1, 2000, 1), texts(2000-leftMsgs, 2000, 1)...)
	return a, pivot, others(inner(level, texts(2001, 2000+right, 1), texts(2000, 2000+rightMsgs, 1)...))
}

// fits holds Fits of two neighbours against what it must be, and, if they fit, what is joined against what is right.
func fits(t *testing.T, c api.Config, a api.Node, pivot string, b api.Node, must bool) {
	t.Helper()
	if conf.Check(c) != api.OK {
		t.Fatalf("%+v are not right", c)
	}
	if got := cleave.Fits(c, a, b); got != must {
		t.Fatalf("Fits(%+v, %s, %s) = %v", c, told(a), told(b), got)
	}
	got := join(t, a, pivot, b)
	for _, s := range []api.Span{lex.All(), {Lo: text(0), Hi: text(9999)}, {Lo: text(900), Top: true}} {
		if !node.Right(c, below(s, pivot), a) || !node.Right(c, behind(s, pivot), b) {
			t.Fatalf("%s, %s are not right for %+v", told(a), told(b), c)
		}
		if must && !node.Right(c, s, got) {
			t.Fatalf("%s and %s fit, but %s is not right", told(a), told(b), told(got))
		}
	}
}

// Of all pairs of leaves that fit just, or just not.
func TestFitsOfLeaves(t *testing.T) {
	for _, leaf := range []int{23, 24, 25, 26, 27, 36, 37, 1023, 1024} {
		c := few
		c.Leaf, c.Bytes = leaf, 65536
		half := leaf / 2
		for left := range half + 2 {
			if left > 20 && left < half-20 && left%31 > 0 {
				continue
			}
			for _, all := range []int{left, left + 1, half - 1, half, half + 1, half + 2, leaf} {
				if all < left {
					continue
				}
				a, pivot, b := neighbours(0, left, all-left, 0, 0)
				fits(t, c, a, pivot, b, all <= half)
				a, pivot, b = neighbours(0, all-left, left, 0, 0)
				fits(t, c, a, pivot, b, all <= half)
			}
		}
	}
}

// Leaves are held against Leaf alone, and other nodes against Fan and Buffer alone.
func TestFitsByOneSetting(t *testing.T) {
	c := api.Config{Blocks: 65536, Bytes: 65536, Frames: 8, Fan: 8, Buffer: 100, Leaf: 1024, Key: 3, Val: 2}
	a, pivot, b := neighbours(0, 200, 312, 0, 0)
	fits(t, c, a, pivot, b, true)
	a, pivot, b = neighbours(1, 2, 2, 40, 60)
	fits(t, c, a, pivot, b, true)
	a, pivot, b = neighbours(1, 2, 2, 41, 60)
	fits(t, c, a, pivot, b, false)
	a, pivot, b = neighbours(1, 3, 2, 40, 60)
	fits(t, c, a, pivot, b, false)
	c.Fan, c.Leaf = 32, 100
	a, pivot, b = neighbours(0, 20, 30, 0, 0)
	fits(t, c, a, pivot, b, true)
	a, pivot, b = neighbours(0, 20, 31, 0, 0)
	fits(t, c, a, pivot, b, false)
	a, pivot, b = neighbours(1, 10, 6, 50, 50)
	fits(t, c, a, pivot, b, true)
	a, pivot, b = neighbours(1, 10, 7, 50, 50)
	fits(t, c, a, pivot, b, false)
}

// All counts of kids, and messages that fit just, or just not.
func TestFitsOfOthers(t *testing.T) {
	for _, fan := range []int{8, 9, 10, 11, 63, 64} {
		c := many
		c.Fan = fan
		for _, buffer := range []int{2 * fan, 2*fan + 1, 512} {
			c.Buffer = buffer
			for left := 1; left <= fan; left++ {
				for right := 1; right <= fan; right++ {
					if sum := left + right; fan > 11 && sum != 2 && (sum < fan/2-1 || sum > fan/2+2) && left*right%53 > 0 {
						continue
					}
					for _, msgs := range [][2]int{{0, 0}, {0, buffer}, {buffer, 0}, {buffer / 2, buffer - buffer/2}, {buffer / 2, buffer - buffer/2 + 1}, {1, buffer}, {buffer, 1}, {buffer, buffer}} {
						a, pivot, b := neighbours(1+left%40, left, right, msgs[0], msgs[1])
						fits(t, c, a, pivot, b, left+right <= fan/2 && msgs[0]+msgs[1] <= buffer)
					}
				}
			}
		}
	}
}

// Of settings that may not be Fits tells what its words say, and ends.
func TestFitsOfOtherSettings(t *testing.T) {
	for _, i := range []int{math.MinInt, math.MinInt + 1, -3, -2, -1, 0, 1, 2, 3, 4, 5, 6, 7, 8, math.MaxInt - 1, math.MaxInt} {
		half := i >> 1
		for left := range 4 {
			for right := range 4 {
				a, _, b := neighbours(0, left, right, 0, 0)
				if got := cleave.Fits(api.Config{Leaf: i}, a, b); got != (left+right <= half) {
					t.Errorf("Fits of %d and %d pairs, Leaf %d: %v", left, right, i, got)
				}
				a, _, b = neighbours(1, 1+left, 1+right, left, right)
				if got := cleave.Fits(api.Config{Fan: i, Buffer: 100}, a, b); got != (2+left+right <= half) {
					t.Errorf("Fits of %d and %d kids, Fan %d: %v", 1+left, 1+right, i, got)
				}
				if got := cleave.Fits(api.Config{Fan: 100, Buffer: i}, a, b); got != (left+right <= i) {
					t.Errorf("Fits of %d and %d messages, Buffer %d: %v", left, right, i, got)
				}
			}
		}
	}
}

// Two small nodes fit always, if their messages have room; so do the halves of half a node.
func TestFitsOfHalves(t *testing.T) {
	for _, c := range []api.Config{few, some, many} {
		for _, n := range []api.Node{leafOf(texts(0, c.Leaf/2, 1)...), inner(7, texts(8, 8*(c.Fan/2), 8), texts(0, c.Buffer, 1)...)} {
			a, b, pivot, ok := cleave.Halve(n)
			if !ok || !cleave.Fits(c, a, b) {
				t.Errorf("the halves of %s don't fit: %s, %s", told(n), told(a), told(b))
			}
			if back, ok := cleave.Join(a, pivot, b); !ok || !alike(back, n) {
				t.Errorf("%s, halved and joined: %s, %v", told(n), told(back), ok)
			}
		}
		for _, n := range []api.Node{leafOf(texts(0, c.Leaf/2+1, 1)...), inner(7, texts(8, 8*(c.Fan/2+1), 8))} {
			if a, b, _, ok := cleave.Halve(n); !ok || cleave.Fits(c, a, b) {
				t.Errorf("the halves of %s fit: %s, %s", told(n), told(a), told(b))
			}
		}
	}
}

func TestJoinOfManyNodes(t *testing.T) {
	r := rand.New(rand.NewSource(42))
	met := 0
	for _, c := range []api.Config{some, many} {
		for range 1000 {
			level := r.Intn(3)
			a, b := random(r, c, 256, 1024, level), others(random(r, c, 1024, 2048, level))
			s, pivot := api.Span{Lo: "\x02", Hi: "\x09"}, "\x05"
			got := join(t, a, pivot, b)
			if !node.Right(c, below(s, pivot), a) || !node.Right(c, behind(s, pivot), b) {
				t.Fatalf("%s, %s are not right", told(a), told(b))
			}
			if cleave.Fits(c, a, b) {
				met++
				if !node.Right(c, s, got) {
					t.Fatalf("%s and %s fit, but %s is not right", told(a), told(b), told(got))
				}
			}
		}
	}
	if met < 100 {
		t.Errorf("no more than %d fitted", met)
	}
}

// roomy is a list in the midst of memory that has more, and that whole memory.
func roomy[T any](l []T, spare T) (part, all []T) {
	all = slices.Concat([]T{spare}, l, []T{spare, spare, spare})
	return all[1 : 1+len(l)], all
}

// housed is a node whose lists stand in the midst of more memory, and a text of all of that.
func housed(n api.Node) (api.Node, func() string) {
	kids, allKids := roomy(n.Kids, 66)
	pivots, allPivots := roomy(n.Pivots, "spare")
	msgs, allMsgs := roomy(n.Buf, api.Msg{Key: "spare"})
	pairs, allPairs := roomy(n.Pairs, api.Pair{Key: "spare"})
	text := func() string { return fmt.Sprintf("%v %q %#v %#v", allKids, allPivots, allMsgs, allPairs) }
	return api.Node{Level: n.Level, Kids: kids, Pivots: pivots, Buf: msgs, Pairs: pairs}, text
}

// fill changes all that a list's asker may change, its spare room included.
func fill[T any](l []T, x T) {
	l = l[:cap(l)]
	for i := range l {
		l[i] = x
	}
}

// spoil changes all that a node's asker may change.
func spoil(n api.Node) {
	fill(n.Kids, 77)
	fill(n.Pivots, "spoilt")
	fill(n.Buf, api.Msg{Key: "spoilt", Del: true, Val: "s"})
	fill(n.Pairs, api.Pair{Key: "spoilt", Val: "s"})
}

// parts are nodes with lists of several lengths.
func parts() []api.Node {
	return []api.Node{{}, leafOf("a"), leafOf("a", "b"), leafOf("a", "b", "c"), leafOf(texts(0, 1024, 1)...),
		inner(1, nil), inner(1, nil, "a"), inner(1, []string{"b"}), inner(1, []string{"b"}, "a"), inner(1, []string{"b"}, "c"), inner(2, []string{"b", "d"}, "a", "b", "d"),
		inner(2, []string{"b", "d", "f"}, "a", "b", "d", "e", "f", "g"), inner(40, texts(8, 512, 8), texts(0, 512, 1)...)}
}

// Nothing that is handed in changes, nor when what was told is changed; both halves have nothing in common, and what was told stays when what was handed in is changed.
func TestMemoryOfHalves(t *testing.T) {
	for _, n := range parts() {
		mine, all := housed(n)
		was := all()
		a, b, pivot, ok := cleave.Halve(mine)
		left, right := node.Clone(a), node.Clone(b)
		spoil(a)
		if !alike(b, right) || all() != was {
			t.Errorf("%s: its first half was changed, and with it %s, %s", told(n), told(b), all())
		}
		spoil(b)
		if all() != was {
			t.Errorf("%s: its halves were changed, and with them %s", told(n), all())
		}
		a, b, again, same := cleave.Halve(mine)
		spoil(b)
		spoil(mine)
		if !alike(a, left) || again != pivot || same != ok {
			t.Errorf("%s: its first half is %s", told(n), told(a))
		}
		mine, _ = housed(n)
		a, b, _, _ = cleave.Halve(mine)
		spoil(a)
		spoil(mine)
		if !alike(b, right) {
			t.Errorf("%s: its other half is %s", told(n), told(b))
		}
	}
}

func TestMemoryOfJoined(t *testing.T) {
	for _, left := range parts() {
		for _, right := range parts() {
			a, allA := housed(left)
			b, allB := housed(right)
			was := allA() + allB()
			got, ok := cleave.Join(a, "e", b)
			must := node.Clone(got)
			cleave.Fits(many, a, b)
			if allA()+allB() != was {
				t.Fatalf("Join(%s, e, %s) changed them", told(left), told(right))
			}
			spoil(got)
			if allA()+allB() != was {
				t.Fatalf("Join(%s, e, %s): what was told was changed, and with it these", told(left), told(right))
			}
			again, same := cleave.Join(a, "e", b)
			spoil(a)
			spoil(b)
			if !alike(again, must) || same != ok {
				t.Fatalf("Join(%s, e, %s): what was handed in was changed, and with it %s", told(left), told(right), told(again))
			}
		}
	}
	// One node may be handed in twice.
	n, all := housed(inner(2, []string{"b"}, "a", "c"))
	was := all()
	spoil(join(t, n, "d", n))
	if all() != was {
		t.Errorf("a node joined with itself was changed: %s", all())
	}
}

// wrong are nodes of other shapes than are right.
func wrong() []api.Node {
	var all []api.Node
	lists := [][]string{nil, {""}, {"b"}, {"d", "b"}, {"b", "b"}, {"d", "b", "", "c"}}
	for _, level := range []int{math.MinInt, -1, 0, 1, 41, math.MaxInt} {
		for _, kids := range [][]uint32{nil, {1}, {0, 0}, {5, 5, 2}, {1, 2, 3, 4, 5}} {
			for _, pivots := range lists {
				for _, keys := range lists {
					n := inner(level, nil, keys...)
					n.Kids, n.Pivots, n.Pairs = kids, pivots, leafOf(keys...).Pairs
					all = append(all, n)
				}
			}
		}
	}
	return all
}

// Of nodes of other shapes it is free what is told, but each call ends, and nothing handed in changes.
func TestOtherNodesEnd(t *testing.T) {
	all := wrong()
	for i, n := range all {
		a, text := housed(n)
		was := text()
		cleave.Halve(a)
		for k := 1; k < len(all); k += 1 + k/4 {
			cleave.Join(a, "b", all[(i+k)%len(all)])
			cleave.Fits(some, a, all[(i+k)%len(all)])
			cleave.Fits(some, all[(i+k)%len(all)], a)
		}
		if text() != was {
			t.Fatalf("%s: what was handed in changed", told(n))
		}
	}
}

// What one call tells hangs on nothing that was asked ahead of it.
func TestFromArgumentsAlone(t *testing.T) {
	great, small := inner(1, texts(8, 512, 8), texts(0, 512, 1)...), inner(1, []string{"b"}, "a", "c")
	for range 3 {
		halve(t, many, lex.All(), great)
		halve(t, many, lex.All(), small)
		halve(t, many, lex.All(), leafOf("a", "b", "c"))
		refused(t, leafOf("a"))
		refused(t, inner(1, nil, "a"))
	}
}
