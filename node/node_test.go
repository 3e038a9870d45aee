package node_test

import (
	"fmt"
	"math"
	"math/rand"
	"slices"
	"sort"
	"strings"
	"testing"

	"sluicegate/api"
	"sluicegate/lex"
	"sluicegate/node"
)

// few, many and some are settings that are right: the least ones, the greatest ones, and some between them.
var (
	few  = api.Config{Blocks: 5, Bytes: 173, Frames: 8, Fan: 8, Buffer: 16, Leaf: 16, Key: 1, Val: 0}
	many = api.Config{Blocks: 65536, Bytes: 65536, Frames: 64, Fan: 64, Buffer: 512, Leaf: 1024, Key: 64, Val: 256}
	some = api.Config{Blocks: 100, Bytes: 173, Frames: 8, Fan: 8, Buffer: 16, Leaf: 16, Key: 2, Val: 1}
)

// span is the keys from lo on below hi.
func span(lo, hi string) api.Span { return api.Span{Lo: lo, Hi: hi} }

// from is the keys from lo on.
func from(lo string) api.Span { return api.Span{Lo: lo, Top: true} }

// leafOf is a leaf of keys, each with the value 1.
func leafOf(keys ...string) api.Node {
	var n api.Node
	for _, key := range keys {
		n.Pairs = append(n.Pairs, api.Pair{Key: key, Val: "1"})
	}
	return n
}

// inner is a node of Level 1, of kids 4, 5, .., with pivots between them, and messages, each with the value 1.
func inner(pivots []string, keys ...string) api.Node {
	n := api.Node{Level: 1, Pivots: pivots}
	for i := range len(pivots) + 1 {
		n.Kids = append(n.Kids, uint32(4+i))
	}
	for _, key := range keys {
		n.Buf = append(n.Buf, api.Msg{Key: key, Val: "1"})
	}
	return n
}

// with is a node that was changed.
func with(n api.Node, change func(n *api.Node)) api.Node {
	n = copied(n)
	change(&n)
	return n
}

// copied is a node like that one, made list by list.
func copied(n api.Node) api.Node {
	return api.Node{
		Level:  n.Level,
		Kids:   append([]uint32{}, n.Kids...),
		Pivots: append([]string{}, n.Pivots...),
		Buf:    append([]api.Msg{}, n.Buf...),
		Pairs:  append([]api.Pair{}, n.Pairs...),
	}
}

// told is a node as a text, short enough to read; unlike nodes of few things have unlike ones.
func told(n api.Node) string {
	return fmt.Sprintf("(Level %d, %d Kids %v, %d Pivots %q, %d in Buf %#v, %d Pairs %#v)", n.Level,
		len(n.Kids), n.Kids[:min(len(n.Kids), 12)], len(n.Pivots), n.Pivots[:min(len(n.Pivots), 12)],
		len(n.Buf), n.Buf[:min(len(n.Buf), 12)], len(n.Pairs), n.Pairs[:min(len(n.Pairs), 12)])
}

// holds holds Right of a node against what it must be.
func holds(t *testing.T, c api.Config, s api.Span, n api.Node, must bool) {
	t.Helper()
	if got := node.Right(c, s, n); got != must {
		t.Errorf("Right(%+v, %+v, %s) = %v", c, s, told(n), got)
	}
}

func TestKey(t *testing.T) {
	for _, most := range []int{1, 2, 3, 63, 64} {
		for n := range most + 3 {
			for _, key := range []string{strings.Repeat("k", n), strings.Repeat("\x00", n), strings.Repeat("\xff", n)} {
				if got := node.Key(api.Config{Key: most}, key); got != (n >= 1 && n <= most) {
					t.Errorf("Key of %d bytes, where %d may be, = %v", n, most, got)
				}
			}
		}
	}
	// A letter of two bytes is two bytes.
	if node.Key(api.Config{Key: 1}, "é") || !node.Key(api.Config{Key: 2}, "é") || node.Key(api.Config{Key: 2}, "éa") {
		t.Error("Key of é")
	}
	for _, most := range []int{0, -1, math.MinInt} {
		if node.Key(api.Config{Key: most, Val: 9, Leaf: 9}, "") || node.Key(api.Config{Key: most, Val: 9, Leaf: 9}, "a") {
			t.Errorf("Key, where %d bytes may be", most)
		}
	}
	for _, c := range []api.Config{few, some, many} {
		if node.Key(c, "") || !node.Key(c, "a") || !node.Key(c, strings.Repeat("a", c.Key)) || node.Key(c, strings.Repeat("a", c.Key+1)) {
			t.Errorf("Key of %+v", c)
		}
	}
}

func TestRightOfLeaves(t *testing.T) {
	ab := leafOf("a", "b")
	for _, x := range []struct {
		s    api.Span
		n    api.Node
		must bool
	}{
		{lex.All(), api.Node{}, true}, {span("a", "c"), api.Node{}, true}, {span("c", "a"), api.Node{}, true}, {api.Span{}, api.Node{}, true},
		{lex.All(), api.Node{Kids: []uint32{}, Pivots: []string{}, Buf: []api.Msg{}, Pairs: []api.Pair{}}, true},
		{lex.All(), ab, true}, {lex.All(), leafOf("\x00"), true}, {lex.All(), leafOf("a", "a\x00", "ab", "b", "\x7f", "\x80", "\xff\xff"), true},
		{lex.All(), leafOf("b", "a"), false}, {lex.All(), leafOf("a", "a"), false}, {lex.All(), leafOf("a", "b", "c", "b"), false}, {lex.All(), leafOf("b", "c", "a"), false},
		{lex.All(), leafOf("\x80", "\x7f"), false}, {lex.All(), leafOf("b", "ab"), false}, {lex.All(), leafOf("a\x00", "a"), false}, {lex.All(), leafOf("9", "10"), false},
		{lex.All(), leafOf(""), false}, {lex.All(), leafOf("", "a"), false}, {span("", "a"), leafOf(""), false},
		{lex.All(), leafOf("ab"), true}, {lex.All(), leafOf("abc"), false}, {lex.All(), leafOf("a", "abc", "b"), false}, {lex.All(), leafOf("a", "b", "bcd"), false},
		{lex.All(), api.Node{Pairs: []api.Pair{{Key: "a"}, {Key: "b", Val: "1"}}}, true}, {lex.All(), api.Node{Pairs: []api.Pair{{Key: "a", Val: "\x00"}}}, true},
		{lex.All(), api.Node{Pairs: []api.Pair{{Key: "a", Val: "12"}, {Key: "b"}}}, false}, {lex.All(), api.Node{Pairs: []api.Pair{{Key: "a"}, {Key: "b", Val: "12"}}}, false}, {lex.All(), api.Node{Pairs: []api.Pair{{Key: "a"}, {Key: "b", Val: "é"}}}, false},
		{span("a", "c"), ab, true}, {span("a", "b\x00"), ab, true}, {span("a", "b"), ab, false}, {span("a\x00", "c"), ab, false}, {span("b", "c"), ab, false}, {span("", "a"), ab, false}, {span("c", "d"), ab, false},
		{from("a"), ab, true}, {from("a\x00"), ab, false}, {from("b"), ab, false}, {from("c"), ab, false}, {span("c", "a"), ab, false}, {span("a", "a"), leafOf("a"), false}, {span("b", "a"), leafOf("a"), false}, {api.Span{}, ab, false},
		// Where a span is Top, its Hi counts for nothing.
		{api.Span{Lo: "a", Hi: "b", Top: true}, ab, true}, {api.Span{Lo: "a", Hi: "", Top: true}, ab, true}, {api.Span{Lo: "b", Hi: "c", Top: true}, ab, false},
		{lex.All(), with(ab, func(n *api.Node) { n.Kids = []uint32{1} }), false}, {lex.All(), with(ab, func(n *api.Node) { n.Kids = []uint32{0} }), false}, {lex.All(), api.Node{Kids: []uint32{1}}, false}, {lex.All(), api.Node{Kids: []uint32{1, 2}, Pivots: []string{"a"}}, false},
		{lex.All(), with(ab, func(n *api.Node) { n.Pivots = []string{"b"} }), false}, {lex.All(), api.Node{Pivots: []string{"b"}}, false}, {lex.All(), api.Node{Pivots: []string{""}}, false},
		{lex.All(), with(ab, func(n *api.Node) { n.Buf = []api.Msg{{Key: "a", Val: "1"}} }), false}, {lex.All(), api.Node{Buf: []api.Msg{{Key: "a", Val: "1"}}}, false}, {lex.All(), api.Node{Buf: []api.Msg{{}}}, false},
	} {
		holds(t, some, x.s, x.n, x.must)
	}
}

func TestRightOfOthers(t *testing.T) {
	bd := inner([]string{"b", "d"}, "a", "b", "e")
	kids := func(l ...uint32) api.Node { return with(bd, func(n *api.Node) { n.Kids = l }) }
	pivots := func(l ...string) api.Node { return with(bd, func(n *api.Node) { n.Pivots = l }) }
	msgs := func(l ...api.Msg) api.Node { return with(bd, func(n *api.Node) { n.Buf = l }) }
	level := func(i int) api.Node { return with(bd, func(n *api.Node) { n.Level = i }) }
	m := func(key, val string) api.Msg { return api.Msg{Key: key, Val: val} }
	for _, x := range []struct {
		s    api.Span
		n    api.Node
		must bool
	}{
		{lex.All(), bd, true}, {lex.All(), inner(nil), true}, {lex.All(), inner(nil, "a"), true}, {lex.All(), inner([]string{"b"}), true}, {span("a", "b"), inner(nil, "a"), true}, {span("b", "a"), inner(nil), true},
		{lex.All(), level(2), true}, {lex.All(), level(39), true}, {lex.All(), level(40), true}, {lex.All(), level(0), false}, {lex.All(), level(-1), false}, {lex.All(), level(41), false}, {lex.All(), level(math.MinInt), false}, {lex.All(), level(math.MaxInt), false}, {lex.All(), level(1 << 32), false}, {lex.All(), api.Node{Level: -1}, false}, {lex.All(), api.Node{Level: 41}, false},
		{lex.All(), with(bd, func(n *api.Node) { n.Pairs = []api.Pair{{Key: "a"}} }), false}, {lex.All(), with(bd, func(n *api.Node) { n.Pairs = []api.Pair{{}} }), false}, {lex.All(), with(bd, func(n *api.Node) { n.Pairs = []api.Pair{} }), true}, {lex.All(), api.Node{Level: 1, Pairs: []api.Pair{{Key: "a"}}}, false},
		{lex.All(), api.Node{Level: 1}, false}, {lex.All(), api.Node{Level: 1, Kids: []uint32{}, Pivots: []string{}}, false}, {lex.All(), api.Node{Level: 1, Buf: bd.Buf}, false}, {lex.All(), api.Node{Level: 1, Pivots: []string{"b"}}, false},
		{lex.All(), kids(1, 2, 3), true}, {lex.All(), kids(3, 2, 1), true}, {lex.All(), kids(99, 1, 98), true}, {lex.All(), kids(0, 1, 2), false}, {lex.All(), kids(1, 0, 2), false}, {lex.All(), kids(1, 2, 0), false}, {lex.All(), kids(100, 1, 2), false}, {lex.All(), kids(1, 100, 2), false}, {lex.All(), kids(1, 2, 100), false}, {lex.All(), kids(1, 2, 101), false}, {lex.All(), kids(1, 2, math.MaxUint32), false}, {lex.All(), kids(1, 2, 1<<31), false},
		{lex.All(), kids(1, 1, 2), false}, {lex.All(), kids(1, 2, 1), false}, {lex.All(), kids(2, 1, 1), false}, {lex.All(), kids(7, 7, 7), false}, {lex.All(), kids(0, 0, 1), false},
		{lex.All(), kids(1, 2), false}, {lex.All(), kids(1, 2, 3, 4), false}, {lex.All(), kids(1), false}, {lex.All(), kids(), false},
		{lex.All(), pivots("b"), false}, {lex.All(), pivots("b", "c", "d"), false}, {lex.All(), pivots(), false}, {lex.All(), pivots("d", "b"), false}, {lex.All(), pivots("b", "b"), false}, {lex.All(), pivots("", "b"), false}, {lex.All(), pivots("b", ""), false},
		{lex.All(), pivots("b", "cc"), true}, {lex.All(), pivots("b", "ccc"), false}, {lex.All(), pivots("bbb", "cc"), false}, {lex.All(), pivots("\x00", "\xff\xff"), true}, {lex.All(), pivots("\x7f", "\x80"), true}, {lex.All(), pivots("\x80", "\x7f"), false}, {lex.All(), pivots("a\x00", "a"), false},
		{span("a", "f"), bd, true}, {span("a", "e\x00"), bd, true}, {span("a", "e"), bd, false}, {span("a\x00", "f"), bd, false}, {from("a"), bd, true}, {from("a\x00"), bd, false}, {span("f", "a"), bd, false}, {api.Span{}, bd, false},
		// Just the pivots, or just the messages, are outside.
		{span("a", "d"), inner([]string{"b", "d"}), false}, {span("a", "d\x00"), inner([]string{"b", "d"}), true}, {span("b", "e"), inner([]string{"b", "d"}), false}, {from("b"), inner([]string{"b", "d"}), false}, {from("a\xff"), inner([]string{"b", "d"}), true}, {from("c"), inner([]string{"b", "d"}), false}, {span("a", "c"), inner([]string{"b", "d"}), false},
		{span("a", "c"), inner(nil, "c"), false}, {span("a", "c"), inner(nil, "bz"), true}, {span("a", "c"), inner(nil, "a"), true}, {span("a", "c"), inner(nil, "Z"), false}, {span("a", "c"), inner([]string{"b"}, "a", "b", "c"), false}, {span("b", "a"), inner(nil, "b"), false},
		{api.Span{Lo: "a", Hi: "b", Top: true}, bd, true}, {api.Span{Lo: "b", Hi: "z", Top: true}, bd, false},
		{lex.All(), msgs(m("b", "1"), m("a", "1")), false}, {lex.All(), msgs(m("a", "1"), m("a", "2")), false}, {lex.All(), msgs(m("a", ""), m("b", "1"), m("a", "")), false}, {lex.All(), msgs(m("", "1")), false}, {lex.All(), msgs(m("", ""), m("a", "")), false},
		{lex.All(), msgs(m("ab", "1")), true}, {lex.All(), msgs(m("abc", "1")), false}, {lex.All(), msgs(m("a", ""), m("b", "12")), false}, {lex.All(), msgs(m("a", "12"), m("b", "")), false}, {lex.All(), msgs(m("a", "é")), false}, {lex.All(), msgs(m("a", "\x00")), true},
		{lex.All(), msgs(api.Msg{Key: "a", Del: true}), true}, {lex.All(), msgs(api.Msg{Key: "a", Del: true, Val: "1"}), false}, {lex.All(), msgs(api.Msg{Key: "a", Del: true, Val: "12"}), false}, {lex.All(), msgs(m("a", "1"), api.Msg{Key: "b", Del: true, Val: "\x00"}), false}, {lex.All(), msgs(api.Msg{Key: "a", Del: true}, api.Msg{Key: "a", Val: "1"}), false},
		{lex.All(), msgs(api.Msg{Del: true}), false}, {lex.All(), msgs(api.Msg{Key: "abc", Del: true}), false}, {span("a", "c"), inner(nil), true},
	} {
		holds(t, some, x.s, x.n, x.must)
	}
}

// text is the i-th of texts of so many bytes, by rising ones; of one byte there are 255, none of them 0.
func text(i, size int) string {
	if size == 1 {
		return string([]byte{byte(i + 1)})
	}
	return string([]byte{byte(i>>8) + 1, byte(i)}) + strings.Repeat("\xfe", size-2)
}

// fullLeaf is a leaf of so many pairs, each as long as may be.
func fullLeaf(c api.Config, pairs int) api.Node {
	var n api.Node
	for i := range pairs {
		n.Pairs = append(n.Pairs, api.Pair{Key: text(i, c.Key), Val: strings.Repeat("v", c.Val)})
	}
	return n
}

// fullInner is another node of so many kids, the greatest blocks there are, and so many messages, all as long as may be.
func fullInner(c api.Config, kids, msgs int) api.Node {
	n := api.Node{Level: api.MaxLevel}
	for i := range kids {
		n.Kids = append(n.Kids, uint32(c.Blocks-1-i))
		if i > 0 {
			n.Pivots = append(n.Pivots, text(i, c.Key))
		}
	}
	for i := range msgs {
		n.Buf = append(n.Buf, api.Msg{Key: text(i, c.Key), Val: strings.Repeat("v", c.Val)})
	}
	return n
}

// Each limit is itself allowed, and nothing beyond it.
func TestRightAtTheLimits(t *testing.T) {
	wide := some
	wide.Blocks, wide.Fan, wide.Buffer, wide.Leaf = 65, 64, 128, 129
	for _, c := range []api.Config{few, some, wide, many} {
		kids := min(c.Fan, c.Blocks-1)
		holds(t, c, lex.All(), fullLeaf(c, c.Leaf), true)
		holds(t, c, lex.All(), fullLeaf(c, c.Leaf+1), false)
		holds(t, c, lex.All(), fullLeaf(c, c.Leaf-1), true)
		holds(t, c, lex.All(), fullInner(c, kids, c.Buffer), true)
		holds(t, c, lex.All(), fullInner(c, kids, c.Buffer+1), false)
		holds(t, c, lex.All(), fullInner(c, kids, c.Buffer-1), true)
		holds(t, c, lex.All(), fullInner(c, kids-1, c.Buffer), true)
		holds(t, c, lex.All(), fullInner(c, kids+1, c.Buffer), false)
		holds(t, c, lex.All(), fullInner(c, 1, 0), true)
		last := text(c.Buffer-1, c.Key)
		holds(t, c, span("\x01", last+"\x00"), fullInner(c, kids, c.Buffer), true)
		holds(t, c, span("\x01", last), fullInner(c, kids, c.Buffer), false)
	}
	// One kid too many is wrong also where there are blocks enough, and one that is no block also where there are kids few enough.
	holds(t, some, lex.All(), fullInner(some, 9, 0), false)
	holds(t, few, lex.All(), fullInner(few, 4, 0), true)
	holds(t, few, lex.All(), fullInner(few, 5, 0), false)
}

// One fault is enough, wherever it stands.
func TestRightWithOneFault(t *testing.T) {
	for _, c := range []api.Config{few, some, many} {
		good := fullLeaf(c, c.Leaf)
		s := from(good.Pairs[0].Key)
		holds(t, c, s, good, true)
		for i, p := range good.Pairs {
			for _, odd := range []api.Pair{{Key: "", Val: p.Val}, {Key: "\x00", Val: p.Val}, {Key: p.Key + "\x00", Val: p.Val}, {Key: p.Key, Val: p.Val + "v"}, good.Pairs[(i+1)%len(good.Pairs)]} {
				good.Pairs[i] = odd
				holds(t, c, s, good, false)
			}
			good.Pairs[i] = p
		}
		holds(t, c, s, good, true)
	}
	for _, c := range []api.Config{some, many} {
		good := fullInner(c, c.Fan, c.Buffer)
		s := from(good.Buf[0].Key)
		holds(t, c, s, good, true)
		for i, m := range good.Buf {
			for _, odd := range []api.Msg{{Key: "", Val: m.Val}, {Key: "\x00", Val: m.Val}, {Key: m.Key + "\x00", Val: m.Val}, {Key: m.Key, Val: m.Val + "v"}, {Key: m.Key, Del: true, Val: m.Val}, {Key: m.Key, Del: true, Val: "v"}, good.Buf[(i+1)%c.Buffer]} {
				good.Buf[i] = odd
				holds(t, c, s, good, false)
			}
			good.Buf[i] = m
		}
		for i, pivot := range good.Pivots {
			for _, odd := range []string{"", s.Lo, "\x00", pivot + "\x00", good.Pivots[(i+1)%(c.Fan-1)]} {
				good.Pivots[i] = odd
				holds(t, c, s, good, false)
			}
			good.Pivots[i] = pivot
		}
		for i, kid := range good.Kids {
			for _, odd := range []uint32{0, uint32(c.Blocks), math.MaxUint32, good.Kids[(i+1)%c.Fan], good.Kids[(i+c.Fan/2)%c.Fan]} {
				good.Kids[i] = odd
				holds(t, c, s, good, false)
			}
			good.Kids[i] = kid
		}
		holds(t, c, s, good, true)
	}
}

// right tells whether a node may be, as the document words it.
func right(c api.Config, s api.Span, n api.Node) bool {
	may := func(key string) bool {
		return len(key) >= 1 && len(key) <= c.Key && key >= s.Lo && (s.Top || key < s.Hi)
	}
	if n.Level == 0 {
		ok := n.Kids == nil && n.Pivots == nil && n.Buf == nil && len(n.Pairs) <= c.Leaf
		for i, p := range n.Pairs {
			ok = ok && may(p.Key) && len(p.Val) <= c.Val && (i == 0 || n.Pairs[i-1].Key < p.Key)
		}
		return ok
	}
	ok := n.Level >= 1 && n.Level <= 40 && n.Pairs == nil && len(n.Kids) >= 1 && len(n.Kids) <= c.Fan
	ok = ok && len(n.Pivots)+1 == len(n.Kids) && len(n.Buf) <= c.Buffer
	for i, kid := range n.Kids {
		ok = ok && kid >= 1 && int64(kid) <= int64(c.Blocks)-1 && slices.Index(n.Kids, kid) == i
	}
	for i, pivot := range n.Pivots {
		ok = ok && may(pivot) && pivot != s.Lo && (i == 0 || n.Pivots[i-1] < pivot)
	}
	for i, m := range n.Buf {
		ok = ok && may(m.Key) && len(m.Val) <= c.Val && !(m.Del && m.Val != "") && (i == 0 || n.Buf[i-1].Key < m.Key)
	}
	return ok
}

// nodes are all nodes that have one of these Levels, and of each list one of these.
func nodes(levels []int, kids [][]uint32, pivots [][]string, bufs [][]api.Msg, pairs [][]api.Pair) []api.Node {
	var all []api.Node
	for _, level := range levels {
		for _, k := range kids {
			for _, p := range pivots {
				for _, b := range bufs {
					for _, l := range pairs {
						all = append(all, api.Node{Level: level, Kids: k, Pivots: p, Buf: b, Pairs: l})
					}
				}
			}
		}
	}
	return all
}

// lists are all lists of some things, up to a length, in any order and any of them several times.
func lists[T any](of []T, most int) [][]T {
	all, last := [][]T{nil}, [][]T{nil}
	for range most {
		var next [][]T
		for _, l := range last {
			for _, x := range of {
				next = append(next, append(slices.Clone(l), x))
			}
		}
		all, last = append(all, next...), next
	}
	return all
}

func TestRightOfAllSmallNodes(t *testing.T) {
	c := api.Config{Blocks: 3, Fan: 2, Buffer: 2, Leaf: 2, Key: 2, Val: 1}
	levels := []int{-1, 0, 1, 40, 41}
	kids := lists([]uint32{0, 1, 2, 3}, 3)
	pivots := lists([]string{"", "a", "b", "bcd"}, 2)
	bufs := [][]api.Msg{nil, {{Key: "a", Val: "1"}}, {{Key: "b", Del: true}}, {{Key: "a"}, {Key: "bb"}}, {{Key: "bb"}, {Key: "a"}}, {{Key: "b", Del: true, Val: "1"}}, {{Key: "a", Val: "12"}}, {{Key: "a"}, {Key: "b"}, {Key: "bb"}}}
	pairs := [][]api.Pair{nil, {{Key: "a"}}}
	spans := []api.Span{lex.All(), from("a"), span("a", "b"), span("a", "bb\x00"), span("b", "a")}
	all := nodes(levels, kids, pivots, bufs, pairs)
	all = append(all, nodes([]int{0, 1}, [][]uint32{nil, {1}}, [][]string{nil, {"b"}}, bufs[:2], lists([]api.Pair{{Key: "a"}, {Key: "b", Val: "1"}, {Key: "bb", Val: "12"}, {Key: "bbb"}, {Key: ""}, {Key: "c", Val: "3"}}, 3))...)
	met := 0
	for _, n := range all {
		for _, s := range spans {
			must := right(c, s, n)
			if must {
				met++
			}
			if got := node.Right(c, s, n); got != must {
				t.Fatalf("Right(%+v, %+v, %s) = %v", c, s, told(n), got)
			}
		}
	}
	if met < 100 {
		t.Errorf("no more than %d right ones", met)
	}
}

// Right asks each setting by itself; of wrong ones it tells what the words say, and ends.
func TestRightOfOtherSettings(t *testing.T) {
	full, low := fullInner(some, 3, 3), fullLeaf(some, 3)
	all := func(n int) api.Config {
		return api.Config{Blocks: n, Bytes: n, Frames: n, Fan: n, Buffer: n, Leaf: n, Key: n, Val: n}
	}
	for _, n := range []api.Node{{}, {Level: 1, Kids: []uint32{1}}, full, low} {
		for _, i := range []int{math.MinInt, math.MinInt32, -1, 0, 1, 2, 3, 4, 97, 99, 100, 101, math.MaxInt32, math.MaxInt} {
			for _, c := range []api.Config{all(i), {Blocks: i, Fan: 8, Buffer: 16, Leaf: 16, Key: 2, Val: 1}, {Blocks: 100, Fan: i, Buffer: 16, Leaf: 16, Key: 2, Val: 1}, {Blocks: 100, Fan: 8, Buffer: i, Leaf: 16, Key: 2, Val: 1}, {Blocks: 100, Fan: 8, Buffer: 16, Leaf: i, Key: 2, Val: 1}, {Blocks: 100, Fan: 8, Buffer: 16, Leaf: 16, Key: i, Val: 1}, {Blocks: 100, Fan: 8, Buffer: 16, Leaf: 16, Key: 2, Val: i}} {
				if c.Blocks == math.MinInt {
					// There is no number one below that.
					holds(t, c, lex.All(), n, n.Level == 0 && right(c, lex.All(), n))
					continue
				}
				holds(t, c, lex.All(), n, right(c, lex.All(), n))
			}
		}
	}
	// Neither the bytes of a block nor the frames are asked.
	odd := some
	odd.Bytes, odd.Frames = 0, -1
	holds(t, odd, lex.All(), full, true)
	holds(t, odd, lex.All(), low, true)
}

// unlike are nodes no two of which are alike.
func unlike() []api.Node {
	levels := []int{0, 1, -1, 256}
	kids := [][]uint32{nil, {1}, {2}, {1, 2}, {2, 1}, {257}}
	pivots := [][]string{nil, {""}, {"a"}, {"a", "b"}, {"b", "a"}, {"ab"}}
	bufs := [][]api.Msg{nil, {{}}, {{Key: "a"}}, {{Key: "a", Del: true}}, {{Val: "a"}}, {{Key: "a"}, {Key: "b"}}, {{Key: "b"}, {Key: "a"}}}
	pairs := [][]api.Pair{nil, {{}}, {{Key: "a"}}, {{Val: "a"}}, {{Key: "a"}, {Key: "b"}}, {{Key: "b"}, {Key: "a"}}}
	return nodes(levels, kids, pivots, bufs, pairs)
}

func TestSame(t *testing.T) {
	all := unlike()
	for i, a := range all {
		if !node.Same(a, a) || !node.Same(a, copied(a)) || !node.Same(copied(a), a) {
			t.Fatalf("%s is unlike itself", told(a))
		}
		// All that are near, and some that are far.
		for k := 1; k < len(all); k += 1 + k/50 {
			b := all[(i+k)%len(all)]
			if node.Same(a, b) {
				t.Fatalf("%s and %s are alike", told(a), told(b))
			}
		}
	}
}

// Each field counts, and each place of each list.
func TestSameByFields(t *testing.T) {
	n := fullInner(some, 8, 16)
	n.Pairs = fullLeaf(some, 16).Pairs
	differ := func(change func(b *api.Node)) {
		t.Helper()
		b := with(n, change)
		if node.Same(n, b) || node.Same(b, n) {
			t.Errorf("%s and %s are alike", told(n), told(b))
		}
	}
	differ(func(b *api.Node) { b.Level++ })
	differ(func(b *api.Node) { b.Level = -b.Level })
	for i := range n.Kids {
		differ(func(b *api.Node) { b.Kids[i] += 256 })
		differ(func(b *api.Node) { b.Kids = b.Kids[:i] })
	}
	for i := range n.Pivots {
		differ(func(b *api.Node) { b.Pivots[i] += "\x00" })
		differ(func(b *api.Node) { b.Pivots = b.Pivots[:i] })
	}
	for i := range n.Buf {
		differ(func(b *api.Node) { b.Buf[i].Key += "\x00" })
		differ(func(b *api.Node) { b.Buf[i].Val = "" })
		differ(func(b *api.Node) { b.Buf[i].Del = true })
		differ(func(b *api.Node) { b.Buf = b.Buf[:i] })
	}
	for i := range n.Pairs {
		differ(func(b *api.Node) { b.Pairs[i].Key += "\x00" })
		differ(func(b *api.Node) { b.Pairs[i].Val = "" })
		differ(func(b *api.Node) { b.Pairs = b.Pairs[:i] })
	}
	differ(func(b *api.Node) { slices.Reverse(b.Kids) })
	differ(func(b *api.Node) { slices.Reverse(b.Pivots) })
	differ(func(b *api.Node) { slices.Reverse(b.Buf) })
	differ(func(b *api.Node) { slices.Reverse(b.Pairs) })
}

// Nil and empty lists are alike.
func TestSameOfNothing(t *testing.T) {
	empty := api.Node{Kids: []uint32{}, Pivots: []string{}, Buf: []api.Msg{}, Pairs: []api.Pair{}}
	if !node.Same(empty, api.Node{}) || !node.Same(api.Node{}, empty) || !node.Same(node.Clone(empty), api.Node{}) || !node.Same(node.Clone(api.Node{}), empty) {
		t.Error("nil and empty lists are unlike")
	}
}

func TestClone(t *testing.T) {
	full := fullInner(many, 64, 512)
	full.Pairs = fullLeaf(many, 1024).Pairs
	for _, n := range append(unlike(), full) {
		if got := node.Clone(n); told(got) != told(n) || !node.Same(got, n) {
			t.Fatalf("Clone(%s) = %s", told(n), told(got))
		}
	}
}

// loads, rank, as the document words them.
func loads(n api.Node) []int {
	l := make([]int, len(n.Kids))
	for _, m := range n.Buf {
		way := 0
		for _, pivot := range n.Pivots {
			if pivot <= m.Key {
				way++
			}
		}
		l[way]++
	}
	return l
}

func rank(n api.Node) []int {
	l, all := loads(n), []int{}
	for i := range l {
		all = append(all, i)
	}
	sort.SliceStable(all, func(i, j int) bool { return l[all[i]] > l[all[j]] })
	return all
}

// weighed holds Loads, Rank and Heaviest of a node against what they must be, and all of them against each other (P13.4).
func weighed(t *testing.T, n api.Node) {
	t.Helper()
	l, r := node.Loads(n), node.Rank(n)
	if !slices.Equal(l, loads(n)) {
		t.Fatalf("Loads(%s) = %v, not %v", told(n), l, loads(n))
	}
	if !slices.Equal(r, rank(n)) {
		t.Fatalf("Rank(%s) = %v, not %v, with loads %v", told(n), r, rank(n), l)
	}
	kid, load := node.Heaviest(n)
	if len(n.Kids) == 0 {
		if kid != 0 || load != 0 {
			t.Fatalf("Heaviest(%s) = %d, %d", told(n), kid, load)
		}
		return
	}
	if kid != r[0] || load != l[kid] || load != slices.Max(l) {
		t.Fatalf("Heaviest(%s) = %d, %d, with loads %v", told(n), kid, load, l)
	}
	sum := 0
	for _, one := range l {
		sum += one
	}
	if sum != len(n.Buf) || load*len(n.Kids) < len(n.Buf) {
		t.Fatalf("%s has loads %v, %d in all, %d at most", told(n), l, sum, load)
	}
}

func TestLoads(t *testing.T) {
	bd := []string{"b", "d"}
	for _, x := range []struct {
		n           api.Node
		loads, rank []int
		kid, load   int
	}{
		// The chapter's example.
		{api.Node{Level: 1, Kids: []uint32{4, 7}, Pivots: []string{"b"}, Buf: inner(nil, "a", "b", "c").Buf}, []int{1, 2}, []int{1, 0}, 1, 2},
		{api.Node{}, nil, nil, 0, 0}, {leafOf("a", "b"), nil, nil, 0, 0}, {api.Node{Level: 1}, nil, nil, 0, 0},
		{inner(nil), []int{0}, []int{0}, 0, 0}, {inner(nil, "a", "b"), []int{2}, []int{0}, 0, 2},
		{inner(bd), []int{0, 0, 0}, []int{0, 1, 2}, 0, 0}, {inner(bd, "a"), []int{1, 0, 0}, []int{0, 1, 2}, 0, 1}, {inner(bd, "b"), []int{0, 1, 0}, []int{1, 0, 2}, 1, 1}, {inner(bd, "c"), []int{0, 1, 0}, []int{1, 0, 2}, 1, 1}, {inner(bd, "d"), []int{0, 0, 1}, []int{2, 0, 1}, 2, 1}, {inner(bd, "e"), []int{0, 0, 1}, []int{2, 0, 1}, 2, 1},
		{inner(bd, "a", "b", "d"), []int{1, 1, 1}, []int{0, 1, 2}, 0, 1}, {inner(bd, "a", "a\xff", "b", "d"), []int{2, 1, 1}, []int{0, 1, 2}, 0, 2}, {inner(bd, "a", "b", "d", "d\x00"), []int{1, 1, 2}, []int{2, 0, 1}, 2, 2}, {inner(bd, "b", "c", "d", "e"), []int{0, 2, 2}, []int{1, 2, 0}, 1, 2}, {inner(bd, "a", "aa", "d", "e"), []int{2, 0, 2}, []int{0, 2, 1}, 0, 2}, {inner(bd, "a", "b", "b\x00", "c", "d", "e"), []int{1, 3, 2}, []int{1, 2, 0}, 1, 3},
		{inner([]string{"\x7f", "\x80"}, "a", "\x7f", "\x7f\xff", "\x80", "\xff", "\xff\xff"), []int{1, 2, 3}, []int{2, 1, 0}, 2, 3},
		{inner([]string{"b", "c", "d", "e", "f", "g", "h"}, "b", "d", "dd", "f", "ff", "h"), []int{0, 1, 0, 2, 0, 2, 0, 1}, []int{3, 5, 1, 7, 0, 2, 4, 6}, 3, 2},
		// A message that takes a key away waits like any other; what a kid's block is doesn't count.
		{with(inner(bd, "a", "b", "c"), func(n *api.Node) { n.Buf[1].Del, n.Buf[1].Val = true, ""; n.Kids = []uint32{9, 1, 1} }), []int{1, 2, 0}, []int{1, 0, 2}, 1, 2},
	} {
		if got := node.Loads(x.n); !slices.Equal(got, x.loads) {
			t.Errorf("Loads(%s) = %v, not %v", told(x.n), got, x.loads)
		}
		if got := node.Rank(x.n); !slices.Equal(got, x.rank) {
			t.Errorf("Rank(%s) = %v, not %v", told(x.n), got, x.rank)
		}
		if kid, load := node.Heaviest(x.n); kid != x.kid || load != x.load {
			t.Errorf("Heaviest(%s) = %d, %d, not %d, %d", told(x.n), kid, load, x.kid, x.load)
		}
		weighed(t, x.n)
	}
}

// sets are all lists of some keys in order, each with that key or without it.
func sets(of []string) [][]string {
	all := [][]string{nil}
	for _, key := range of {
		for _, l := range all {
			all = append(all, append(slices.Clone(l), key))
		}
	}
	return all
}

func TestLoadsOfAllSmallNodes(t *testing.T) {
	for _, pivots := range sets([]string{"a", "a\x00", "b", "\x80"}) {
		for _, keys := range sets([]string{"\x00", "a", "a\x00", "ab", "b", "\x7f", "\x80", "\xff"}) {
			weighed(t, inner(pivots, keys...))
		}
	}
}

// scattered is a node of that many kids that have these loads.
func scattered(loads []int) api.Node {
	var pivots, keys []string
	for i, load := range loads {
		if i > 0 {
			pivots = append(pivots, text(i*1000, 2))
		}
		for k := range load {
			keys = append(keys, text(i*1000+k, 2))
		}
	}
	return inner(pivots, keys...)
}

// All rows of a few loads, so that each order, with many alike ones, goes through the heap.
func TestRankOfAllLoads(t *testing.T) {
	for _, l := range lists([]int{0, 1, 2, 3}, 6) {
		if len(l) == 0 {
			continue
		}
		n := scattered(l)
		if got := node.Loads(n); !slices.Equal(got, l) {
			t.Fatalf("Loads(%s) = %v, not %v", told(n), got, l)
		}
		weighed(t, n)
	}
}

func TestRankOfGreatNodes(t *testing.T) {
	r := rand.New(rand.NewSource(31))
	for _, kids := range []int{2, 7, 8, 9, 31, 32, 33, 63, 64} {
		for range 60 {
			l := make([]int, kids)
			for range r.Intn(512) {
				l[r.Intn(1+r.Intn(kids))]++
			}
			n := scattered(l)
			if !node.Right(many, lex.All(), n) {
				t.Fatalf("%s is not right", told(n))
			}
			weighed(t, n)
		}
		rising, alike := make([]int, kids), make([]int, kids)
		for i := range kids {
			rising[i], alike[i] = i, 3
		}
		falling := slices.Clone(rising)
		slices.Reverse(falling)
		for _, l := range [][]int{rising, falling, alike} {
			weighed(t, scattered(l))
		}
	}
}

func TestFind(t *testing.T) {
	for _, x := range []struct {
		kids  []uint32
		block uint32
		must  int
		ok    bool
	}{
		{[]uint32{4, 7, 2}, 4, 0, true}, {[]uint32{4, 7, 2}, 7, 1, true}, {[]uint32{4, 7, 2}, 2, 2, true}, {[]uint32{4, 7, 2}, 3, 0, false}, {[]uint32{4, 7, 2}, 0, 0, false}, {[]uint32{4, 7, 2}, 4 + 1<<16, 0, false}, {[]uint32{4, 7, 2}, math.MaxUint32, 0, false},
		{[]uint32{4, 7, 4, 7}, 7, 1, true}, {[]uint32{4, 7, 4, 7}, 4, 0, true}, {[]uint32{1, 7, 7, 7}, 7, 1, true},
		{nil, 0, 0, false}, {nil, 1, 0, false}, {[]uint32{}, 1, 0, false}, {[]uint32{0}, 0, 0, true}, {[]uint32{1, 0}, 0, 1, true}, {[]uint32{1, math.MaxUint32}, math.MaxUint32, 1, true},
	} {
		for _, level := range []int{1, 0, 40} {
			n := api.Node{Level: level, Kids: x.kids, Pivots: []string{"b"}, Buf: []api.Msg{{Key: "c"}}}
			if at, ok := node.Find(n, x.block); at != x.must || ok != x.ok {
				t.Errorf("Find(%v, %d) = %d, %v, not %d, %v", x.kids, x.block, at, ok, x.must, x.ok)
			}
		}
	}
	n := fullInner(many, 64, 0)
	for i, kid := range n.Kids {
		if at, ok := node.Find(n, kid); at != i || !ok {
			t.Errorf("Find of kid %d = %d, %v", i, at, ok)
		}
	}
	if at, ok := node.Find(n, n.Kids[63]-1); at != 0 || ok {
		t.Errorf("Find of no kid = %d, %v", at, ok)
	}
}

// roomy is a list in the midst of memory that has more, and that whole memory.
func roomy[T any](l []T, spare T) (part, all []T) {
	all = append([]T{spare}, l...)
	all = append(all, spare, spare, spare)
	return all[1 : 1+len(l)], all
}

// fill changes all that a list's asker may change, its spare room included.
func fill[T any](l []T, x T) {
	l = l[:cap(l)]
	for i := range l {
		l[i] = x
	}
}

// spoil changes all that a node's asker may change.
func spoil(n api.Node) {
	fill(n.Kids, 77)
	fill(n.Pivots, "spoilt")
	fill(n.Buf, api.Msg{Key: "spoilt", Del: true, Val: "s"})
	fill(n.Pairs, api.Pair{Key: "spoilt", Val: "s"})
}

// housed is a node whose lists stand in the midst of more memory, and a text of all of that.
func housed(n api.Node) (api.Node, func() string) {
	kids, allKids := roomy(n.Kids, 66)
	pivots, allPivots := roomy(n.Pivots, "spare")
	msgs, allMsgs := roomy(n.Buf, api.Msg{Key: "spare"})
	pairs, allPairs := roomy(n.Pairs, api.Pair{Key: "spare"})
	text := func() string { return fmt.Sprintf("%v %q %#v %#v", allKids, allPivots, allMsgs, allPairs) }
	return api.Node{Level: n.Level, Kids: kids, Pivots: pivots, Buf: msgs, Pairs: pairs}, text
}

// Nothing that is handed in changes in a call, nor when what was told is changed; nor does what was told change with what was handed in.
func TestMemory(t *testing.T) {
	both := fullInner(some, 5, 9)
	both.Pairs = fullLeaf(some, 5).Pairs
	// Kids that don't rise, so that it shows if they were sorted.
	mixed := inner([]string{"b", "d"}, "a", "b", "c", "e")
	mixed.Kids = []uint32{9, 2, 5}
	for _, n := range []api.Node{{}, leafOf("a"), leafOf("a", "b", "c"), inner(nil, "a"), inner([]string{"b"}), mixed, both, fullInner(many, 64, 512), fullLeaf(many, 1024)} {
		mine, all := housed(n)
		was := all()
		same := func(what string) {
			t.Helper()
			if got := all(); got != was {
				t.Errorf("%s: what was handed in is %s, not %s", what, got, was)
			}
		}
		node.Right(some, lex.All(), mine)
		node.Right(many, lex.All(), mine)
		node.Same(mine, mine)
		node.Find(mine, 5)
		node.Heaviest(mine)
		first, rest := node.Loads(mine), node.Rank(mine)
		own := node.Clone(mine)
		same("all calls")
		fill(first, -5)
		fill(rest, -5)
		spoil(own)
		same("what was told was changed")
		if !slices.Equal(node.Loads(mine), loads(n)) || !slices.Equal(node.Rank(mine), rank(n)) || !node.Same(node.Clone(mine), n) {
			t.Errorf("%s: otherwise, when it is asked once more", told(n))
		}
		own, first, rest = node.Clone(mine), node.Loads(mine), node.Rank(mine)
		spoil(mine)
		if !node.Same(own, n) || !slices.Equal(first, loads(n)) || !slices.Equal(rest, rank(n)) {
			t.Errorf("%s: what was told changed with what was handed in", told(n))
		}
	}
}

// Of nodes of other shapes it is free what is told, but each call ends, and nothing handed in changes.
func TestOtherNodesEnd(t *testing.T) {
	kids := [][]uint32{nil, {1}, {0, 0}, {5, 5, 2}}
	var bufs [][]api.Msg
	for _, l := range lists([]string{"", "a", "c"}, 3) {
		bufs = append(bufs, inner(nil, l...).Buf)
	}
	for _, n := range nodes([]int{-1, 0, 1, 41}, kids, lists([]string{"", "b", "d"}, 3), bufs, [][]api.Pair{nil, {{Key: "b"}, {Key: "a"}}}) {
		mine, all := housed(n)
		was := all()
		node.Loads(mine)
		node.Rank(mine)
		kid, load := node.Heaviest(mine)
		if len(n.Kids) == 0 && (kid != 0 || load != 0) {
			t.Fatalf("Heaviest(%s) = %d, %d", told(n), kid, load)
		}
		if all() != was {
			t.Fatalf("%s: what was handed in changed", told(n))
		}
	}
}

// What one call tells hangs on nothing that was asked ahead of it.
func TestFromArgumentsAlone(t *testing.T) {
	great, small := scattered([]int{3, 9, 0, 9, 1}), inner([]string{"b"}, "c")
	for range 3 {
		weighed(t, great)
		weighed(t, small)
		holds(t, many, lex.All(), great, true)
		holds(t, few, lex.All(), great, false)
	}
}
