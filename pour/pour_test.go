package pour_test

import (
	"fmt"
	"maps"
	"math"
	"math/rand"
	"slices"
	"strings"
	"testing"

	"sluicegate/api"
	"sluicegate/buf"
	"sluicegate/conf"
	"sluicegate/fan"
	"sluicegate/lex"
	"sluicegate/node"
	"sluicegate/pour"
)

// few, many and some are settings: such that nodes have as little room as may be, as much as may be, and some between, by odd numbers.
var (
	few  = api.Config{Blocks: 65536, Bytes: 212, Frames: 8, Fan: 8, Buffer: 16, Leaf: 16, Key: 3, Val: 2}
	many = api.Config{Blocks: 65536, Bytes: 65536, Frames: 64, Fan: 64, Buffer: 512, Leaf: 1024, Key: 30, Val: 30}
	some = api.Config{Blocks: 65536, Bytes: 4096, Frames: 8, Fan: 11, Buffer: 23, Leaf: 37, Key: 3, Val: 3}
)

func TestSettingsOfTheseTests(t *testing.T) {
	for _, c := range []api.Config{few, many, some} {
		if conf.Check(c) != api.OK {
			t.Errorf("%+v are not right", c)
		}
	}
}

// msgs are messages as a text has them: of a=1 the key a has the value 1, of a= the empty one, of a! none.
func msgs(text string) []api.Msg {
	var l []api.Msg
	for _, word := range strings.Fields(text) {
		if key, del := strings.CutSuffix(word, "!"); del {
			l = append(l, api.Msg{Key: key, Del: true})
			continue
		}
		key, val, _ := strings.Cut(word, "=")
		l = append(l, api.Msg{Key: key, Val: val})
	}
	return l
}

// leafOf is a leaf of pairs as a text has them: of a=1 the key a has the value 1.
func leafOf(text string) api.Node {
	var n api.Node
	for _, m := range msgs(text) {
		n.Pairs = append(n.Pairs, api.Pair{Key: m.Key, Val: m.Val})
	}
	return n
}

// inner is a node of a level, of kids in no order, with the pivots of a text between them, and the messages of another one.
func inner(level int, pivots, text string) api.Node {
	return kids(api.Node{Level: level, Pivots: strings.Fields(pivots), Buf: msgs(text)})
}

// kids is a node with kids, one more than it has pivots.
func kids(n api.Node) api.Node {
	n.Kids = nil
	for i := range len(n.Pivots) + 1 {
		n.Kids = append(n.Kids, uint32(1000+i*7%64))
	}
	return n
}

// puts are messages of keys, that say of each that it has the value; but of every third one, by their number and the first one's, that it has none.
func puts(val string, first int, keys ...string) []api.Msg {
	var l []api.Msg
	for i, key := range keys {
		m := api.Msg{Key: key, Val: val}
		if (i+first)%3 == 2 {
			m = api.Msg{Key: key, Del: true}
		}
		l = append(l, m)
	}
	return l
}

// pairs are pairs of keys, each with that value.
func pairs(val string, keys ...string) []api.Pair {
	var l []api.Pair
	for _, key := range keys {
		l = append(l, api.Pair{Key: key, Val: val})
	}
	return l
}

// text is the i-th of texts of three bytes, by rising ones.
func text(i int) string {
	return string([]byte{byte(i>>8) + 1, byte(i), byte(i * 5)})
}

// texts are the texts from the first number on, below the other one, by so many.
func texts(from, below, by int) []string {
	var l []string
	for i := from; i < below; i += by {
		l = append(l, text(i))
	}
	return l
}

// sets are all lists of some keys in order, each with that key or without it.
func sets(of ...string) [][]string {
	all := [][]string{nil}
	for _, key := range of {
		for _, l := range all {
			all = append(all, append(slices.Clone(l), key))
		}
	}
	return all
}

// told is a node as a text, short enough to read.
func told(n api.Node) string {
	return fmt.Sprintf("(Level %d, %d Kids %v, %d Pivots %q, %d in Buf %#v, %d Pairs %#v)", n.Level,
		len(n.Kids), n.Kids[:min(len(n.Kids), 12)], len(n.Pivots), n.Pivots[:min(len(n.Pivots), 12)],
		len(n.Buf), n.Buf[:min(len(n.Buf), 12)], len(n.Pairs), n.Pairs[:min(len(n.Pairs), 12)])
}

// alike tells whether nodes are alike; nil and empty lists are.
func alike(a, b api.Node) bool {
	return a.Level == b.Level && slices.Equal(a.Kids, b.Kids) && slices.Equal(a.Pivots, b.Pivots) &&
		slices.Equal(a.Buf, b.Buf) && slices.Equal(a.Pairs, b.Pairs)
}

// way is how many pivots are not behind a key.
func way(pivots []string, key string) int {
	n := 0
	for _, pivot := range pivots {
		if pivot <= key {
			n++
		}
	}
	return n
}

// oneAbove tells whether one Level is the next one above another, and not the least of all numbers behind the greatest one.
func oneAbove(i, j int) bool {
	return j < i && i-j == 1
}

// parted are the messages that leave p, and those that stay, as the document's words have it.
func parted(c api.Config, p api.Node, at int, k api.Node, most int) (leave, stay []api.Msg) {
	if at < 0 || at >= len(p.Kids) || !oneAbove(p.Level, k.Level) || most < 1 {
		return nil, p.Buf
	}
	for _, m := range p.Buf {
		room := k.Level == 0 || len(k.Buf)+len(leave) < c.Buffer
		if way(p.Pivots, m.Key) == at && len(leave) < most && room {
			leave = append(leave, m)
		} else {
			stay = append(stay, m)
		}
	}
	return leave, stay
}

// with is the kid with messages that left the node above it, as the document's words have it.
func with(k api.Node, newer []api.Msg) api.Node {
	k = node.Clone(k)
	if k.Level == 0 {
		vals := map[string]string{}
		for _, p := range k.Pairs {
			vals[p.Key] = p.Val
		}
		for _, m := range newer {
			delete(vals, m.Key)
			if !m.Del {
				vals[m.Key] = m.Val
			}
		}
		k.Pairs = nil
		for _, key := range slices.Sorted(maps.Keys(vals)) {
			k.Pairs = append(k.Pairs, api.Pair{Key: key, Val: vals[key]})
		}
		return k
	}
	all := map[string]api.Msg{}
	for _, m := range slices.Concat(k.Buf, newer) {
		all[m.Key] = m
	}
	k.Buf = nil
	for _, key := range slices.Sorted(maps.Keys(all)) {
		k.Buf = append(k.Buf, all[key])
	}
	return k
}

// check holds Pour against what the document says of it (P15.1, P15.3), and is what it told.
func check(t *testing.T, c api.Config, p api.Node, at int, k api.Node, most int) (api.Node, api.Node, int) {
	t.Helper()
	leave, stay := parted(c, p, at, k, most)
	mustP, mustK := p, with(k, leave)
	mustP.Buf = stay
	gotP, gotK, n := pour.Pour(c, p, at, k, most)
	tell := func() string {
		return fmt.Sprintf("Pour of %s into kid %d, %s, at most %d, Buffer %d: %s, %s, %d", told(p), at, told(k), most, c.Buffer, told(gotP), told(gotK), n)
	}
	if !alike(gotP, mustP) || !alike(gotK, mustK) || n != len(leave) {
		t.Fatalf("%s; must be %s, %s, %d", tell(), told(mustP), told(mustK), len(leave))
	}
	if len(gotP.Buf)+n != len(p.Buf) || len(gotK.Buf)+len(gotK.Pairs) > len(k.Buf)+len(k.Pairs)+n || n > max(most, 0) {
		t.Fatalf("%s: something is lost, or there is too much", tell())
	}
	return gotP, gotK, n
}

func TestExample(t *testing.T) {
	p, k, n := pour.Pour(few, inner(1, "b", "a=1 c=2"), 0, leafOf("a=0"), 9)
	if !alike(p, inner(1, "b", "c=2")) || !alike(k, leafOf("a=1")) || n != 1 {
		t.Error(told(p), told(k), n)
	}
}

// one is a Pour as texts: into the kid at a place, at most so many; what p and k have behind it, and how many left p.
type one struct {
	pivots, p string
	at        int
	k         string
	most      int
	pp, kk    string
	n         int
}

func TestPourIntoLeaves(t *testing.T) {
	for _, x := range []one{
		{"", "", 0, "", 1, "", "", 0},
		{"", "a=1", 0, "", 1, "", "a=1", 1},
		{"", "a=1", 0, "", math.MaxInt, "", "a=1", 1},
		{"", "a=1", 0, "a=0", 1, "", "a=1", 1},
		{"", "a=", 0, "a=0", 1, "", "a=", 1},
		{"", "a!", 0, "a=0", 1, "", "", 1},
		{"", "a!", 0, "", 1, "", "", 1},
		{"", "a!", 0, "ab=0", 1, "", "ab=0", 1},
		{"", "ab!", 0, "a=0 ab=0 abc=0", 1, "", "a=0 abc=0", 1},
		// At most so many, the first ones first.
		{"", "a=1 b=2 c!", 0, "b=0 c=0", 1, "b=2 c!", "a=1 b=0 c=0", 1},
		{"", "a=1 b=2 c!", 0, "b=0 c=0", 2, "c!", "a=1 b=2 c=0", 2},
		{"", "a=1 b=2 c!", 0, "b=0 c=0", 3, "", "a=1 b=2", 3},
		{"", "a=1 b=2 c!", 0, "b=0 c=0", 4, "", "a=1 b=2", 3},
		{"", "a=1 b=2 c!", 0, "b=0 c=0", math.MaxInt, "", "a=1 b=2", 3},
		// None.
		{"", "a=1 b=2 c!", 0, "b=0 c=0", 0, "a=1 b=2 c!", "b=0 c=0", 0},
		{"", "a=1 b=2 c!", 0, "b=0 c=0", -1, "a=1 b=2 c!", "b=0 c=0", 0},
		{"", "a=1 b=2 c!", 0, "b=0 c=0", math.MinInt, "a=1 b=2 c!", "b=0 c=0", 0},
		// Those of the way alone: a pivot is a key of the kid behind it.
		{"b", "a=1 b=2 c=3", 0, "", 9, "b=2 c=3", "a=1", 1},
		{"b", "a=1 b=2 c=3", 1, "", 9, "a=1", "b=2 c=3", 2},
		{"b", "a=1 b=2 c=3", 1, "", 1, "a=1 c=3", "b=2", 1},
		{"b d", "a=1 ab=1 b=2 ba=2 c! d=3 da=3", 0, "", 9, "b=2 ba=2 c! d=3 da=3", "a=1 ab=1", 2},
		{"b d", "a=1 ab=1 b=2 ba=2 c! d=3 da=3", 1, "c=0", 9, "a=1 ab=1 d=3 da=3", "b=2 ba=2", 3},
		{"b d", "a=1 ab=1 b=2 ba=2 c! d=3 da=3", 1, "c=0", 2, "a=1 ab=1 c! d=3 da=3", "b=2 ba=2 c=0", 2},
		{"b d", "a=1 ab=1 b=2 ba=2 c! d=3 da=3", 2, "d=0", 9, "a=1 ab=1 b=2 ba=2 c!", "d=3 da=3", 2},
		{"b d", "a=1 d=3", 1, "c=0", 9, "a=1 d=3", "c=0", 0},
		{"\x80", "\x7f=1 \x7f\xff=1 \x80=2 \xff=2", 0, "", 9, "\x80=2 \xff=2", "\x7f=1 \x7f\xff=1", 2},
		{"\x80", "\x7f=1 \x7f\xff=1 \x80=2 \xff=2", 1, "", 9, "\x7f=1 \x7f\xff=1", "\x80=2 \xff=2", 2},
		// No such place.
		{"b", "a=1 b=2 c=3", 2, "c=0", 9, "a=1 b=2 c=3", "c=0", 0},
		{"b", "a=1 b=2 c=3", -1, "a=0", 9, "a=1 b=2 c=3", "a=0", 0},
		{"b", "a=1 b=2 c=3", math.MaxInt, "c=0", 9, "a=1 b=2 c=3", "c=0", 0},
		{"b", "a=1 b=2 c=3", math.MinInt, "a=0", 9, "a=1 b=2 c=3", "a=0", 0},
		{"", "a=1 b=2 c=3", 1, "c=0", 9, "a=1 b=2 c=3", "c=0", 0},
	} {
		p, k, n := check(t, few, inner(1, x.pivots, x.p), x.at, leafOf(x.k), x.most)
		if !alike(p, inner(1, x.pivots, x.pp)) || !alike(k, leafOf(x.kk)) || n != x.n {
			t.Errorf("%#v: %s, %s, %d", x, told(p), told(k), n)
		}
	}
}

func TestPourIntoOthers(t *testing.T) {
	for _, x := range []one{
		{"", "", 0, "", 1, "", "", 0},
		{"", "a=1", 0, "", 1, "", "a=1", 1},
		{"", "a=1", 0, "", math.MaxInt, "", "a=1", 1},
		// A message of p is newer than one of k.
		{"", "a=1", 0, "a=0", 1, "", "a=1", 1},
		{"", "a=", 0, "a!", 1, "", "a=", 1},
		{"", "a!", 0, "a=0", 1, "", "a!", 1},
		{"", "a!", 0, "", 1, "", "a!", 1},
		{"", "a!", 0, "a! b!", 1, "", "a! b!", 1},
		{"", "a!", 0, "ab=0", 1, "", "a! ab=0", 1},
		{"", "a=1 b=2 c!", 0, "b=0 c=0 d!", 1, "b=2 c!", "a=1 b=0 c=0 d!", 1},
		{"", "a=1 b=2 c!", 0, "b=0 c=0 d!", 2, "c!", "a=1 b=2 c=0 d!", 2},
		{"", "a=1 b=2 c!", 0, "b=0 c=0 d!", 3, "", "a=1 b=2 c! d!", 3},
		{"", "a=1 b=2 c!", 0, "b=0 c=0 d!", math.MaxInt, "", "a=1 b=2 c! d!", 3},
		{"", "a=1 b=2 c!", 0, "b=0 c=0", 0, "a=1 b=2 c!", "b=0 c=0", 0},
		{"", "a=1 b=2 c!", 0, "b=0 c=0", -1, "a=1 b=2 c!", "b=0 c=0", 0},
		{"", "a=1 b=2 c!", 0, "b=0 c=0", math.MinInt, "a=1 b=2 c!", "b=0 c=0", 0},
		{"b", "a=1 b=2 c=3", 0, "", 9, "b=2 c=3", "a=1", 1},
		{"b", "a=1 b=2 c=3", 1, "", 9, "a=1", "b=2 c=3", 2},
		{"b d", "a=1 ab=1 b=2 ba=2 c! d=3 da=3", 1, "c=0", 9, "a=1 ab=1 d=3 da=3", "b=2 ba=2 c!", 3},
		{"b d", "a=1 ab=1 b=2 ba=2 c! d=3 da=3", 1, "c=0", 1, "a=1 ab=1 ba=2 c! d=3 da=3", "b=2 c=0", 1},
		{"b d", "a=1 d=3", 1, "c=0", 9, "a=1 d=3", "c=0", 0},
		// Room for 16: two, one, none; that a key has a message there already makes no room.
		{"b", "a=1 b=2 c=3 d=4", 1, "ba bb bc bd be bf bg bh bi bj bk bl bm bn", 9, "a=1 d=4", "b=2 ba bb bc bd be bf bg bh bi bj bk bl bm bn c=3", 2},
		{"b", "a=1 b=2 c=3 d=4", 1, "ba bb bc bd be bf bg bh bi bj bk bl bm bn bo", 9, "a=1 c=3 d=4", "b=2 ba bb bc bd be bf bg bh bi bj bk bl bm bn bo", 1},
		{"b", "a=1 b=2 c=3 d=4", 1, "b bb bc bd be bf bg bh bi bj bk bl bm bn bo", 9, "a=1 c=3 d=4", "b=2 bb bc bd be bf bg bh bi bj bk bl bm bn bo", 1},
		{"b", "a=1 b=2 c=3 d=4", 1, "ba bb bc bd be bf bg bh bi bj bk bl bm bn bo bp", 9, "a=1 b=2 c=3 d=4", "ba bb bc bd be bf bg bh bi bj bk bl bm bn bo bp", 0},
		{"b", "a=1 b=2 c=3 d=4", 1, "b bb bc bd be bf bg bh bi bj bk bl bm bn bo bp", 9, "a=1 b=2 c=3 d=4", "b bb bc bd be bf bg bh bi bj bk bl bm bn bo bp", 0},
		// No such place.
		{"b", "a=1 b=2 c=3", 2, "c=0", 9, "a=1 b=2 c=3", "c=0", 0},
		{"b", "a=1 b=2 c=3", -1, "a=0", 9, "a=1 b=2 c=3", "a=0", 0},
		{"b", "a=1 b=2 c=3", math.MaxInt, "c=0", 9, "a=1 b=2 c=3", "c=0", 0},
		{"b", "a=1 b=2 c=3", math.MinInt, "a=0", 9, "a=1 b=2 c=3", "a=0", 0},
	} {
		for _, level := range []int{1, 2, 39} {
			p, k, n := check(t, few, inner(level+1, x.pivots, x.p), x.at, inner(level, "bcd bd", x.k), x.most)
			if !alike(p, inner(level+1, x.pivots, x.pp)) || !alike(k, inner(level, "bcd bd", x.kk)) || n != x.n {
				t.Errorf("%#v: %s, %s, %d", x, told(p), told(k), n)
			}
		}
	}
}

// Unless the one Level is one above the other, nothing is poured; a leaf's Level is 0, and no other one.
func TestLevels(t *testing.T) {
	levels := []int{math.MinInt, math.MinInt + 1, -2, -1, 0, 1, 2, 3, 38, 39, 40, 41, math.MaxInt - 1, math.MaxInt}
	for _, i := range levels {
		for _, j := range levels {
			p, k := inner(i, "b", "a=1 c=2"), inner(j, "c", "a=0")
			if j == 0 {
				k = leafOf("a=0")
			}
			must := 0
			if oneAbove(i, j) {
				must = 1
			}
			pp, kk, n := pour.Pour(few, p, 0, k, 9)
			if n != must || must == 0 && (!alike(pp, p) || !alike(kk, k)) {
				t.Errorf("from Level %d to %d: %s, %s, %d", i, j, told(pp), told(kk), n)
			}
			if must == 1 && (!alike(pp, inner(i, "b", "c=2")) || len(kk.Buf)+len(kk.Pairs) != 1) {
				t.Errorf("from Level %d to %d: %s, %s", i, j, told(pp), told(kk))
			}
		}
	}
}

// All of a few pivots, messages, and kids' keys, each at most, into leaves and others.
func TestPourOfAllSmallNodes(t *testing.T) {
	keys := sets("\x00", "a", "ab", "b", "\x80")
	for _, pivots := range sets("a", "ab", "\x80") {
		for i, l := range keys {
			low := kids(api.Node{Level: 1, Pivots: pivots, Buf: puts("n", i, l...)})
			high := low
			high.Level = 2 + i
			for j, o := range keys {
				leaf := api.Node{Pairs: pairs("o", o...)}
				other := kids(api.Node{Level: 1 + i, Pivots: []string{"b"}, Buf: puts("o", j, o...)})
				for at := -1; at <= len(pivots)+1; at++ {
					for most := range 6 {
						check(t, few, low, at, leaf, most)
						check(t, few, high, at, other, most)
					}
				}
			}
		}
	}
}

// A kid that is no leaf takes no more than it has room for, whatever waits for it; a leaf takes all.
func TestRoom(t *testing.T) {
	for _, c := range []api.Config{few, some, many} {
		full := texts(0, c.Buffer, 1)
		for _, wait := range []int{0, 1, 2, c.Buffer / 2, c.Buffer - 1, c.Buffer} {
			// The last so many of p's messages wait for the last kid.
			p := kids(api.Node{Level: 2, Pivots: []string{text(4), text(c.Buffer - wait)}, Buf: puts("n", 1, full...)})
			if wait > c.Buffer-5 {
				p = kids(api.Node{Level: 2, Pivots: []string{text(c.Buffer - wait)}, Buf: p.Buf})
			}
			at := len(p.Pivots)
			for _, has := range []int{0, 1, c.Buffer / 2, c.Buffer - wait - 1, c.Buffer - wait, c.Buffer - wait + 1, c.Buffer - 2, c.Buffer - 1, c.Buffer} {
				if has < 0 || has > c.Buffer {
					continue
				}
				for _, from := range []int{c.Buffer - has, c.Buffer} {
					k := kids(api.Node{Level: 1, Pivots: texts(c.Buffer, c.Buffer+c.Fan-1, 1), Buf: puts("o", 0, texts(from, from+has, 1)...)})
					for _, most := range []int{1, wait - 1, wait, c.Buffer - has - 1, c.Buffer - has, c.Buffer - has + 1, c.Buffer, math.MaxInt} {
						_, kk, n := check(t, c, p, at, k, most)
						if must := max(min(wait, most, c.Buffer-has), 0); n != must || len(kk.Buf) > c.Buffer {
							t.Fatalf("%d waited for a kid of %d, Buffer %d, at most %d: %d came, %s", wait, has, c.Buffer, most, n, told(kk))
						}
					}
				}
			}
			p.Level = 1
			leaf := api.Node{Pairs: pairs("o", texts(c.Buffer, c.Buffer+c.Leaf, 1)...)}
			if pp, _, n := check(t, c, p, at, leaf, math.MaxInt); n != wait || node.Loads(pp)[at] != 0 {
				t.Fatalf("%d waited for a full leaf: %d came", wait, n)
			}
		}
	}
}

// A leaf may have more pairs than Leaf behind that: nothing is lost.
func TestGreatLeaves(t *testing.T) {
	for _, c := range []api.Config{few, some, many} {
		p := kids(api.Node{Level: 1, Buf: nil})
		for _, key := range texts(1, 2*c.Buffer, 2) {
			p.Buf = append(p.Buf, api.Msg{Key: key, Val: "n"})
		}
		k := api.Node{Pairs: pairs("o", texts(0, 2*c.Leaf, 2)...)}
		for _, most := range []int{1, 2, conf.Move(c), c.Buffer} {
			if _, kk, n := check(t, c, p, 0, k, most); n != most || len(kk.Pairs) != c.Leaf+most {
				t.Errorf("at most %d came to a full leaf: %d, %s", most, n, told(kk))
			}
		}
	}
}

// Of the settings Buffer alone counts, and of a leaf's not even that.
func TestOtherSettings(t *testing.T) {
	p := inner(2, "b d", "a=1 b=2 ba=2 c! d=3")
	low := inner(1, "b d", "a=1 b=2 ba=2 c! d=3")
	for _, i := range []int{math.MinInt, math.MinInt + 1, math.MinInt + 2, -3, -2, -1, 0, 1, 2, 3, 4, 5, 6, math.MaxInt - 1, math.MaxInt} {
		for has := range 4 {
			k := inner(1, "", strings.Join([]string{"b=0", "bb=0", "bc=0"}[:has], " "))
			must := min(3, max(i, 0)-min(has, max(i, 0)))
			for _, c := range []api.Config{{Buffer: i}, {Blocks: i, Bytes: i, Frames: i, Fan: i, Buffer: i, Leaf: i, Key: i, Val: i}} {
				if _, _, n := check(t, c, p, 1, k, 9); n != must {
					t.Errorf("Buffer %d, of a kid of %d messages: %d", i, has, n)
				}
				if _, _, n := check(t, c, low, 1, leafOf("b=0 c=0"), 9); n != 3 {
					t.Errorf("Buffer %d, of a leaf: %d", i, n)
				}
			}
			if _, _, n := check(t, api.Config{Blocks: i, Bytes: i, Frames: i, Fan: i, Buffer: has + 2, Leaf: i, Key: i, Val: i}, p, 1, k, 9); n != 2 {
				t.Errorf("all but Buffer %d, of a kid of %d messages, Buffer %d: %d", i, has, has+2, n)
			}
		}
	}
}

// random is a node of keys by chance, right for settings and a span of keys of that list.
func random(r *rand.Rand, c api.Config, s api.Span, level int, keys []string) api.Node {
	pick := func(most int) []string {
		var l []string
		for _, i := range r.Perm(len(keys))[:min(r.Intn(most+1), len(keys))] {
			if lex.In(s, keys[i]) {
				l = append(l, keys[i])
			}
		}
		return slices.Sorted(slices.Values(l))
	}
	val := string([]byte{'a' + byte(r.Intn(26)), 'a' + byte(r.Intn(26))})
	if level == 0 {
		return api.Node{Pairs: pairs(val, pick(c.Leaf)...)}
	}
	pivots := pick(r.Intn(c.Fan))
	if len(pivots) > 0 && pivots[0] == s.Lo {
		pivots = pivots[1:]
	}
	return kids(api.Node{Level: level, Pivots: pivots, Buf: puts(val, r.Intn(3), pick(c.Buffer)...)})
}

// down is nodes on a way down, by chance, the upper ones first, with the places at which the kids stand, and their spans.
func down(r *rand.Rand, c api.Config, height int, keys []string) (path []api.Node, ats []int, spans []api.Span) {
	s := lex.All()
	for level := height - 1; level >= 0; level-- {
		n := random(r, c, s, level, keys)
		path, spans = append(path, n), append(spans, s)
		ats = append(ats, r.Intn(len(n.Pivots)+1))
		s, _ = fan.Span(n.Pivots, ats[len(ats)-1], s)
	}
	return path, ats, spans
}

// short are all keys of up to two of some bytes; long are more of three bytes.
func short() []string {
	var l []string
	for _, a := range "\x01acz" {
		l = append(l, string(a))
		for _, b := range "\x00abcz" {
			l = append(l, string(a)+string(b))
		}
	}
	return l
}

func long() []string { return texts(0, 1500, 1) }

// Of right nodes: p stays right; k is right for its span, but that a leaf may have more pairs than Leaf; the kid's load falls by what left, no other one does.
func TestStillRight(t *testing.T) {
	r := rand.New(rand.NewSource(44))
	poured := 0
	for i := range 3000 {
		c, keys := []api.Config{few, some, many}[i%3], short()
		if i%4 == 0 {
			keys = long()
		}
		path, ats, spans := down(r, c, 2+r.Intn(2), keys)
		p, at, k := path[0], ats[0], path[1]
		if !node.Right(c, spans[0], p) || !node.Right(c, spans[1], k) {
			t.Fatalf("%s, %s are not right", told(p), told(k))
		}
		most := 1 + r.Intn(c.Buffer)
		pp, kk, n := check(t, c, p, at, k, most)
		poured += n
		c.Leaf = 2000
		if !node.Right(c, spans[0], pp) || !node.Right(c, spans[1], kk) {
			t.Fatalf("%s, %s, of %s, %s, are not right", told(pp), told(kk), told(p), told(k))
		}
		loads := node.Loads(p)
		loads[at] -= n
		if !slices.Equal(loads, node.Loads(pp)) {
			t.Fatalf("%d poured at %d: %s, %s", n, at, told(p), told(pp))
		}
	}
	if poured < 10000 {
		t.Errorf("no more than %d messages were poured", poured)
	}
}

// value is what nodes on a way down say of a key, as the document's words have it.
func value(path []api.Node, key string) (string, bool) {
	for _, n := range path {
		for _, m := range n.Buf {
			if m.Key == key && m.Del {
				return "", false
			}
			if m.Key == key {
				return m.Val, true
			}
		}
	}
	if len(path) > 0 {
		for _, p := range path[len(path)-1].Pairs {
			if p.Key == key {
				return p.Val, true
			}
		}
	}
	return "", false
}

func TestValue(t *testing.T) {
	top, mid, low := inner(2, "c x", "c=1 d! f= h=1"), inner(1, "f g", "d=2 e=2 f=2 g! h! i= j!"), leafOf("c=0 d=0 e=0 f=0 g=0 h=0 i=0 j=0 k=0 l=")
	bare := inner(1, "f", "")
	for _, x := range []struct {
		path []api.Node
		key  string
		val  string
		ok   bool
	}{
		{nil, "", "", false}, {nil, "a", "", false}, {[]api.Node{}, "a", "", false},
		{[]api.Node{{}}, "a", "", false}, {[]api.Node{{}}, "", "", false},
		{[]api.Node{low}, "c", "0", true}, {[]api.Node{low}, "l", "", true}, {[]api.Node{low}, "m", "", false}, {[]api.Node{low}, "", "", false}, {[]api.Node{low}, "ca", "", false},
		// The first message counts, whatever is below it.
		{[]api.Node{top, mid, low}, "c", "1", true}, {[]api.Node{top, mid, low}, "d", "", false}, {[]api.Node{top, mid, low}, "f", "", true}, {[]api.Node{top, mid, low}, "h", "1", true},
		{[]api.Node{top, mid, low}, "e", "2", true}, {[]api.Node{top, mid, low}, "g", "", false}, {[]api.Node{top, mid, low}, "i", "", true}, {[]api.Node{top, mid, low}, "j", "", false},
		{[]api.Node{top, mid, low}, "k", "0", true}, {[]api.Node{top, mid, low}, "l", "", true}, {[]api.Node{top, mid, low}, "m", "", false},
		{[]api.Node{mid, low}, "c", "0", true}, {[]api.Node{mid, low}, "d", "2", true}, {[]api.Node{mid, low}, "h", "", false}, {[]api.Node{mid, low}, "f", "2", true},
		{[]api.Node{inner(3, "", ""), inner(2, "", ""), bare, low}, "k", "0", true}, {[]api.Node{inner(3, "", "k!"), inner(2, "", ""), bare, low}, "k", "", false},
		{[]api.Node{inner(3, "", ""), inner(2, "", "k=7"), bare, low}, "k", "7", true}, {[]api.Node{inner(3, "", ""), inner(2, "", ""), bare, {}}, "k", "", false},
		// Where a message is met, no leaf is asked for.
		{[]api.Node{top}, "c", "1", true}, {[]api.Node{top}, "d", "", false}, {[]api.Node{top, mid}, "e", "2", true}, {[]api.Node{top, mid}, "d", "", false}, {[]api.Node{top, mid}, "z", "", false},
		// A message that is Del says that there is none, whatever Val stands beside it.
		{[]api.Node{{Level: 1, Kids: []uint32{5}, Buf: []api.Msg{{Key: "c", Del: true, Val: "x"}}}, low}, "c", "", false},
	} {
		val, ok := pour.Value(x.path, x.key)
		if val != x.val || ok != x.ok {
			t.Errorf("Value of %q on %d nodes: %q, %v; must be %q, %v", x.key, len(x.path), val, ok, x.val, x.ok)
		}
		if val, ok := value(x.path, x.key); val != x.val || ok != x.ok {
			t.Errorf("by the words: Value of %q on %d nodes: %q, %v", x.key, len(x.path), val, ok)
		}
	}
}

// All that three nodes may say of a key, with others ahead of it and behind it.
func TestValueOfAllSmallPaths(t *testing.T) {
	says := []string{"", "k=", "k=1", "k!"}
	around := func(say string) string { return "ja=5 " + say + " ka=6" }
	for _, top := range says {
		for _, mid := range says {
			for _, low := range says[:3] {
				for _, path := range [][]api.Node{
					{inner(2, "", top), inner(1, "", mid), leafOf(low)},
					{inner(2, "k", around(top)), inner(1, "ka", around(mid)), leafOf(around(low))},
					{inner(2, "k", around(top)), inner(1, "ka", ""), leafOf(low)},
				} {
					for _, key := range []string{"", "j", "ja", "k", "k\x00", "ka", "z"} {
						must, there := value(path, key)
						if val, ok := pour.Value(path, key); val != must || ok != there {
							t.Errorf("Value of %q of %q, %q, %q: %q, %v", key, top, mid, low, val, ok)
						}
					}
				}
			}
		}
	}
}

// values are the Value of each key, held against the document's words.
func values(t *testing.T, path []api.Node, keys []string) map[string]string {
	t.Helper()
	all := map[string]string{}
	for _, key := range keys {
		val, ok := pour.Value(path, key)
		if must, there := value(path, key); val != must || ok != there {
			t.Fatalf("Value of %q: %q, %v; must be %q, %v", key, val, ok, must, there)
		}
		if ok {
			all[key] = val
		}
	}
	return all
}

// Whatever is poured along a way down, in whatever order, the Value of each key on it is the same.
func TestTheSameMap(t *testing.T) {
	r := rand.New(rand.NewSource(15))
	poured, empty := 0, 0
	for i := range 600 {
		c, all := []api.Config{few, some, many}[i%3], short()
		if i%50 == 0 {
			all = texts(0, 300, 1)
		}
		path, ats, spans := down(r, c, 2+i%4, all)
		own := spans[len(spans)-1]
		var keys []string
		for _, key := range append(all, "", "zzz") {
			if lex.In(own, key) {
				keys = append(keys, key)
			}
		}
		was := values(t, path, keys)
		for range 3 * len(path) {
			from := r.Intn(len(path) - 1)
			most := 1 + r.Intn(c.Buffer)/(1+r.Intn(8))
			var n int
			path[from], path[from+1], n = check(t, c, path[from], ats[from], path[from+1], most)
			poured += n
			if now := values(t, path, keys); !maps.Equal(now, was) {
				t.Fatalf("%d poured from node %d: %v was %v", n, from, now, was)
			}
		}
		if allDown(t, c, path, ats, own) {
			empty++
			if has := pairsOf(path[len(path)-1], own); !maps.Equal(has, was) {
				t.Fatalf("the leaf has %v, must have %v", has, was)
			}
		}
	}
	if poured < 5000 || empty < 500 {
		t.Errorf("no more than %d messages were poured, %d times all", poured, empty)
	}
}

// allDown pours along a way, the lowest ones first, as often as there is something, and tells whether no key's message waits any more: one does only where the node below is full.
func allDown(t *testing.T, c api.Config, path []api.Node, ats []int, own api.Span) bool {
	t.Helper()
	low := len(path) - 1
	for more := true; more; {
		more = false
		for from := low - 1; from >= 0; from-- {
			var n int
			path[from], path[from+1], n = check(t, c, path[from], ats[from], path[from+1], math.MaxInt)
			more = more || n > 0
		}
	}
	empty := true
	for from := range low {
		if len(buf.Part(path[from].Buf, own)) == 0 {
			continue
		}
		empty = false
		if from+1 == low || len(path[from+1].Buf) < c.Buffer {
			t.Fatalf("messages wait in %s for %s", told(path[from]), told(path[from+1]))
		}
	}
	return empty
}

// pairsOf are a leaf's pairs of a span, as a map.
func pairsOf(n api.Node, s api.Span) map[string]string {
	all := map[string]string{}
	for _, p := range n.Pairs {
		if lex.In(s, p.Key) {
			all[p.Key] = p.Val
		}
	}
	return all
}

// What is poured in handfuls is what is poured at once.
func TestInHandfuls(t *testing.T) {
	r := rand.New(rand.NewSource(16))
	for i := range 300 {
		c := []api.Config{few, some, many}[i%3]
		path, ats, _ := down(r, c, 2, short())
		p, k, at := path[0], path[1], ats[0]
		all, into, n := check(t, c, p, at, k, math.MaxInt)
		sum := 0
		for _, most := range []int{0, 1, 2, 1, 3, -1, c.Buffer, 1} {
			var few int
			p, k, few = check(t, c, p, at, k, most)
			sum += few
		}
		if !alike(p, all) || !alike(k, into) || sum != n {
			t.Fatalf("%d at once: %s, %s; in handfuls %d: %s, %s", n, told(all), told(into), sum, told(p), told(k))
		}
		// There is nothing more to be poured.
		if pp, kk, n := check(t, c, p, at, k, math.MaxInt); n != 0 || !alike(pp, p) || !alike(kk, k) {
			t.Fatalf("%d poured from %s", n, told(p))
		}
	}
}

// roomy is a list in the midst of memory that has more, and that whole memory.
func roomy[T any](l []T, spare T) (part, all []T) {
	all = slices.Concat([]T{spare}, l, []T{spare, spare, spare})
	return all[1 : 1+len(l)], all
}

// housed is a node whose lists stand in the midst of more memory, and a text of all of that.
func housed(n api.Node) (api.Node, func() string) {
	kids, allKids := roomy(n.Kids, 66)
	pivots, allPivots := roomy(n.Pivots, "spare")
	msgs, allMsgs := roomy(n.Buf, api.Msg{Key: "spare"})
	pairs, allPairs := roomy(n.Pairs, api.Pair{Key: "spare"})
	text := func() string { return fmt.Sprintf("%d %v %q %#v %#v", n.Level, allKids, allPivots, allMsgs, allPairs) }
	return api.Node{Level: n.Level, Kids: kids, Pivots: pivots, Buf: msgs, Pairs: pairs}, text
}

// fill changes all that a list's asker may change, its spare room included.
func fill[T any](l []T, x T) {
	l = l[:cap(l)]
	for i := range l {
		l[i] = x
	}
}

// spoilLists are what changes one list of a node each.
func spoilLists(n api.Node) []func() {
	return []func(){
		func() { fill(n.Kids, 77) },
		func() { fill(n.Pivots, "spoilt") },
		func() { fill(n.Buf, api.Msg{Key: "spoilt", Del: true, Val: "s"}) },
		func() { fill(n.Pairs, api.Pair{Key: "spoilt", Val: "s"}) },
	}
}

// spoil changes all that a node's asker may change.
func spoil(n api.Node) {
	for _, one := range spoilLists(n) {
		one()
	}
}

// asked is what may be asked of Pour.
type asked struct {
	p    api.Node
	at   int
	k    api.Node
	most int
}

// asks are Pours of all, some and no messages, to leaves and others, and such as are refused.
func asks() []asked {
	var all []asked
	great := kids(api.Node{Level: 2, Pivots: texts(8, 512, 8), Buf: puts("n", 0, texts(0, 512, 1)...)})
	for _, p := range []api.Node{{}, {Level: 2}, inner(2, "", ""), inner(2, "", "a=1"), inner(2, "b", "a=1 b! c=2"), inner(2, "b d", "a=1 b=2 c! d=3"), inner(2, "b d", "a=1"), great} {
		for _, k := range []api.Node{inner(1, "", ""), inner(1, "c", "b=0"), inner(1, "c d", "a=0 b=0 c=0 d!"), leafOf(""), leafOf("b=0"), leafOf("a=0 b=0 c=0 d=0")} {
			if k.Level == 0 {
				p.Level = 1
			}
			for _, at := range []int{-1, 0, 1, 3} {
				for _, most := range []int{0, 1, 2, 9} {
					all = append(all, asked{p, at, k, most})
				}
			}
		}
		all = append(all, asked{p, 0, p, 9})
	}
	// Nodes with lists that right ones don't have are told as they are, too.
	more := func(level int) api.Node {
		n := inner(level, "b d", "a=1 b=2 c! d=3")
		n.Pairs = leafOf("a=0 b=0").Pairs
		return n
	}
	for _, x := range []asked{{at: 1, most: 9}, {at: 1, most: 0}, {at: 5, most: 9}} {
		all = append(all, asked{more(2), x.at, more(1), x.most}, asked{more(1), x.at, more(0), x.most})
		low := more(0)
		low.Pairs = low.Pairs[:1]
		high := more(1)
		high.Pairs = high.Pairs[:1]
		all = append(all, asked{high, x.at, low, x.most})
	}
	return all
}

// Nothing that is handed in changes, nor when what was told is changed; what was told is of its own memory, list by list, and stays when what was handed in is changed.
func TestMemoryOfPour(t *testing.T) {
	for _, x := range asks() {
		p, allP := housed(x.p)
		k, allK := housed(x.k)
		was := allP() + allK()
		pp, kk, n := pour.Pour(some, p, x.at, k, x.most)
		mustP, mustK := node.Clone(pp), node.Clone(kk)
		if allP()+allK() != was {
			t.Fatalf("Pour of %s, %d, %s, %d changed them", told(x.p), x.at, told(x.k), x.most)
		}
		spoilt := append(spoilLists(pp), spoilLists(kk)...)
		lists := func() []string {
			return []string{fmt.Sprint(pp.Kids), fmt.Sprint(pp.Pivots), fmt.Sprint(pp.Buf), fmt.Sprint(pp.Pairs), fmt.Sprint(kk.Kids), fmt.Sprint(kk.Pivots), fmt.Sprint(kk.Buf), fmt.Sprint(kk.Pairs)}
		}
		for i, one := range spoilt {
			now := lists()
			one()
			if after := lists(); !slices.Equal(slices.Delete(now, i, i+1), slices.Delete(after, i, i+1)) {
				t.Fatalf("Pour of %s, %d, %s, %d: list %d was changed, and with it others: %q", told(x.p), x.at, told(x.k), x.most, i, after)
			}
		}
		if allP()+allK() != was {
			t.Fatalf("Pour of %s, %d, %s, %d: what was told was changed, and with it these", told(x.p), x.at, told(x.k), x.most)
		}
		pp, kk, again := pour.Pour(some, p, x.at, k, x.most)
		spoil(p)
		spoil(k)
		if !alike(pp, mustP) || !alike(kk, mustK) || again != n {
			t.Fatalf("Pour of %s, %d, %s, %d: what was handed in was changed, and with it %s, %s", told(x.p), x.at, told(x.k), x.most, told(pp), told(kk))
		}
	}
}

// One list may be both nodes': what is told is not.
func TestOneListOfBoth(t *testing.T) {
	p, all := housed(inner(2, "b", "a=1 b=2 c!"))
	k := p
	k.Level = 1
	was := all()
	pp, kk, n := check(t, few, p, 1, k, 9)
	if !alike(pp, inner(2, "b", "a=1")) || !alike(kk, inner(1, "b", "a=1 b=2 c!")) || n != 2 {
		t.Error(told(pp), told(kk), n)
	}
	spoil(pp)
	if !alike(kk, inner(1, "b", "a=1 b=2 c!")) || all() != was {
		t.Error(told(kk), all())
	}
	pp, kk, _ = pour.Pour(few, p, 5, p, 9)
	spoil(pp)
	if !alike(kk, inner(2, "b", "a=1 b=2 c!")) || all() != was {
		t.Error(told(kk), all())
	}
}

func TestMemoryOfValue(t *testing.T) {
	var path []api.Node
	var alls []func() string
	for _, n := range []api.Node{inner(2, "b", "a=1 b!"), inner(1, "b", "a! b=3 c="), leafOf("a=0 b=0 c=0 d=4")} {
		n, all := housed(n)
		path, alls = append(path, n), append(alls, all)
	}
	path, whole := roomy(path, inner(7, "", "spare=1"))
	state := func() string {
		return fmt.Sprintf("%#v %s %s %s", whole, alls[0](), alls[1](), alls[2]())
	}
	was := state()
	told := map[string]string{}
	for _, key := range []string{"", "a", "b", "c", "d", "e", "spare"} {
		if val, ok := pour.Value(path, key); ok {
			told[key] = val
		}
	}
	if state() != was || !maps.Equal(told, map[string]string{"a": "1", "c": "", "d": "4"}) {
		t.Errorf("%q, %s was %s", told, state(), was)
	}
}

// wrong are nodes of other shapes than are right.
func wrong() []api.Node {
	var all []api.Node
	lists := []string{"", "b", "d b", "b b", "d=1 b= c! a=2"}
	for _, level := range []int{math.MinInt, -1, 0, 1, 2, 41, math.MaxInt} {
		for _, kids := range [][]uint32{nil, {1}, {0, 0}, {5, 5, 2}, {1, 2, 3, 4, 5}} {
			for _, pivots := range [][]string{nil, {""}, {"b"}, {"d", "b"}, {"b", "b"}, {"d", "b", "", "c"}} {
				for _, text := range lists {
					all = append(all, api.Node{Level: level, Kids: kids, Pivots: pivots, Buf: msgs(text), Pairs: leafOf(text).Pairs})
				}
			}
		}
	}
	return all
}

// Of nodes of other shapes each call ends, and nothing handed in changes; where it must pour nothing, both are told as they are.
func TestOtherNodesEnd(t *testing.T) {
	all := wrong()
	for i, n := range all {
		p, textP := housed(n)
		for j := 1; j < len(all); j += 1 + j/4 {
			k, textK := housed(all[(i+j)%len(all)])
			was := textP() + textK()
			for _, at := range []int{math.MinInt, -1, 0, 1, 2, 5, math.MaxInt} {
				for _, most := range []int{math.MinInt, 0, 1, 2, math.MaxInt} {
					leave, _ := parted(some, p, at, k, most)
					pp, kk, n := pour.Pour(some, p, at, k, most)
					if n < 0 || n > len(p.Buf) {
						t.Fatalf("%d poured from %s", n, told(p))
					}
					none := at < 0 || at >= len(p.Kids) || most < 1 || !oneAbove(p.Level, k.Level)
					if none && (n != 0 || len(leave) != 0 || !alike(pp, p) || !alike(kk, k)) {
						t.Fatalf("Pour of %s, %d, %s, %d = %s, %s, %d", told(p), at, told(k), most, told(pp), told(kk), n)
					}
				}
			}
			pour.Value([]api.Node{p, k}, "b")
			pour.Value([]api.Node{k, p}, "")
			if textP()+textK() != was {
				t.Fatalf("%s, %s: what was handed in changed", told(p), told(k))
			}
		}
	}
}

// Kids that are more, or fewer, than the pivots have between them: a place is one of the kids', and takes what has that way.
func TestKidsAndPivotsUnlike(t *testing.T) {
	p := api.Node{Level: 1, Kids: []uint32{4, 7, 9}, Pivots: []string{"b"}, Buf: msgs("a=1 b=2 c=3")}
	for at, must := range []int{1, 2, 0, 0} {
		if _, _, n := check(t, few, p, at, leafOf("b=0"), 9); n != must {
			t.Errorf("kid %d of three with one pivot: %d", at, n)
		}
	}
	p = api.Node{Level: 1, Kids: []uint32{4, 7}, Pivots: []string{"b", "c", "d"}, Buf: msgs("a=1 b=2 c=3 d=4")}
	for at, must := range []int{1, 1, 0, 0} {
		if _, _, n := check(t, few, p, at, leafOf("b=0"), 9); n != must {
			t.Errorf("kid %d of two with three pivots: %d", at, n)
		}
	}
	// No key goes ahead of the empty pivot.
	p = api.Node{Level: 1, Kids: []uint32{4, 7}, Pivots: []string{""}, Buf: msgs("=0 a=1")}
	for at, must := range []int{0, 2} {
		if _, _, n := check(t, few, p, at, leafOf("b=0"), 9); n != must {
			t.Errorf("kid %d around the empty pivot: %d", at, n)
		}
	}
}

// A leaf is what has Level 0, whatever else it has, or has not.
func TestOddLeaves(t *testing.T) {
	p := inner(1, "b", "a=1 b=2 c!")
	k := api.Node{Kids: []uint32{5}, Pivots: []string{"x"}, Buf: msgs("z=9"), Pairs: pairs("0", "b", "c")}
	must := node.Clone(k)
	must.Pairs = pairs("2", "b")
	if pp, kk, n := check(t, api.Config{}, p, 1, k, 9); !alike(pp, inner(1, "b", "a=1")) || !alike(kk, must) || n != 2 {
		t.Error(told(pp), told(kk), n)
	}
	p.Level, k = 2, api.Node{Level: 1, Buf: msgs("c=0 z=9"), Pairs: pairs("0", "b", "c")}
	must = node.Clone(k)
	must.Buf = msgs("b=2 c! z=9")
	if pp, kk, n := check(t, few, p, 1, k, 9); !alike(pp, inner(2, "b", "a=1")) || !alike(kk, must) || n != 2 {
		t.Error(told(pp), told(kk), n)
	}
}

// The words have no other limits than most and Buffer, so many messages there may be.
func TestBeyondLimits(t *testing.T) {
	p := kids(api.Node{Level: 1, Pivots: texts(10, 200, 1), Buf: puts("n", 1, texts(0, 3000, 1)...)})
	leaf := api.Node{Pairs: pairs("o", texts(150, 4000, 3)...)}
	at := len(p.Pivots)
	for _, most := range []int{1500, math.MaxInt} {
		if _, _, n := check(t, few, p, at, leaf, most); n != min(most, 2801) {
			t.Errorf("at most %d: %d came to a leaf", most, n)
		}
	}
	p.Level = 2
	k := kids(api.Node{Level: 1, Buf: puts("o", 0, texts(150, 3950, 2)...)})
	for _, buffer := range []int{1899, 1900, 1901, 3000, 5000} {
		if _, _, n := check(t, api.Config{Buffer: buffer}, p, at, k, math.MaxInt); n != min(2801, max(buffer-1900, 0)) {
			t.Errorf("Buffer %d: %d came to a kid of %d", buffer, n, len(k.Buf))
		}
	}
}

// What one call tells hangs on nothing that was asked ahead of it.
func TestFromArgumentsAlone(t *testing.T) {
	great := kids(api.Node{Level: 2, Pivots: texts(8, 512, 8), Buf: puts("n", 0, texts(0, 512, 1)...)})
	for range 3 {
		check(t, many, great, 3, inner(1, "b", "a=1 b=2"), 99)
		check(t, few, inner(1, "b", "a=1 c=2"), 0, leafOf("a=0"), 9)
		check(t, few, inner(1, "b", "a=1 c=2"), 2, leafOf("a=0"), 9)
		check(t, many, great, 3, inner(1, "b", "a=1 b=2"), 5)
		if val, ok := pour.Value([]api.Node{great, leafOf("a=0")}, "a"); val != "0" || !ok {
			t.Error(val, ok)
		}
		if val, ok := pour.Value(nil, "a"); val != "" || ok {
			t.Error(val, ok)
		}
	}
}

// To pour all is to take the kid's part of the buffer, and to merge it over the kid's own (chapter 10).
func TestAsBuffers(t *testing.T) {
	r := rand.New(rand.NewSource(17))
	for range 300 {
		path, ats, spans := down(r, many, 3, short())
		p, k, at := path[0], path[1], ats[0]
		pp, kk, n := check(t, many, p, at, k, math.MaxInt)
		taken := buf.Part(p.Buf, spans[1])
		if n != len(taken) || !buf.Same(kk.Buf, buf.Merge(taken, k.Buf)) || !buf.Right(kk.Buf) || !buf.Right(pp.Buf) || !buf.Same(buf.Merge(taken, pp.Buf), p.Buf) {
			t.Fatalf("%d poured at %d from %s into %s: %s, %s", n, at, told(p), told(k), told(pp), told(kk))
		}
	}
}
