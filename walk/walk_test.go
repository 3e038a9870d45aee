package walk_test

import (
	"bytes"
	"fmt"
	"maps"
	"math"
	"math/rand"
	"slices"
	"strings"
	"testing"

	"sluicegate/api"
	"sluicegate/conf"
	"sluicegate/dev"
	"sluicegate/lex"
	"sluicegate/shelf"
	"sluicegate/walk"
)

// Settings whose device has as few blocks as may be, some, those of odd numbers, the most parts of a node, and the longest keys and values.
var (
	few  = api.Config{Blocks: 5, Bytes: 134, Frames: 8, Fan: 8, Buffer: 16, Leaf: 16, Key: 1, Val: 0}
	some = api.Config{Blocks: 100, Bytes: 180, Frames: 8, Fan: 8, Buffer: 16, Leaf: 16, Key: 2, Val: 1}
	odd  = api.Config{Blocks: 321, Bytes: 345, Frames: 13, Fan: 11, Buffer: 23, Leaf: 37, Key: 3, Val: 3}
	many = api.Config{Blocks: 65536, Bytes: 65536, Frames: 64, Fan: 64, Buffer: 512, Leaf: 1024, Key: 30, Val: 30}
	long = api.Config{Blocks: 200, Bytes: 5679, Frames: 9, Fan: 8, Buffer: 16, Leaf: 16, Key: 64, Val: 256}
)

// settings are all of these.
func settings() []api.Config { return []api.Config{few, some, odd, many, long} }

func TestSettingsOfTheseTests(t *testing.T) {
	for _, c := range settings() {
		if conf.Check(c) != api.OK {
			t.Errorf("%+v are not right", c)
		}
	}
}

// msgs are messages as a text has them: of a=1 the key a has the value 1, of a= the empty one, of a! none.
func msgs(text string) []api.Msg {
	var l []api.Msg
	for _, word := range strings.Fields(text) {
		if key, del := strings.CutSuffix(word, "!"); del {
			l = append(l, api.Msg{Key: key, Del: true})
			continue
		}
		key, val, _ := strings.Cut(word, "=")
		l = append(l, api.Msg{Key: key, Val: val})
	}
	return l
}

// leaf is a leaf of pairs as a text has them: of a=1 the key a has the value 1.
func leaf(text string) api.Node {
	var n api.Node
	for _, m := range msgs(text) {
		n.Pairs = append(n.Pairs, api.Pair{Key: m.Key, Val: m.Val})
	}
	return n
}

// inner is a node of a level, of messages and pivots as texts have them, and of kids.
func inner(level int, text, pivots string, kids ...uint32) api.Node {
	return api.Node{Level: level, Kids: kids, Pivots: strings.Fields(pivots), Buf: msgs(text)}
}

// below are the keys from lo on, below hi.
func below(lo, hi string) api.Span { return api.Span{Lo: lo, Hi: hi} }

// from are the keys from lo on.
func from(lo string) api.Span { return api.Span{Lo: lo, Top: true} }

// seen is what is told of a node.
type seen struct {
	block uint32
	node  api.Node
	span  api.Span
}

// alike tells whether nodes are alike; nil and empty lists are.
func alike(a, b api.Node) bool {
	return a.Level == b.Level && slices.Equal(a.Kids, b.Kids) && slices.Equal(a.Pivots, b.Pivots) &&
		slices.Equal(a.Buf, b.Buf) && slices.Equal(a.Pairs, b.Pairs)
}

// same tells whether the same was told of two nodes.
func same(a, b seen) bool {
	return a.block == b.block && a.span == b.span && alike(a.node, b.node)
}

// told is what was told as a text, short enough to read.
func told(l []seen) string {
	var b strings.Builder
	for _, x := range l {
		fmt.Fprintf(&b, "(%d: Level %d, Kids %v, Pivots %.60q, Buf %.60q, Pairs %.60q; %.60q)", x.block, x.node.Level,
			x.node.Kids[:min(len(x.node.Kids), 8)], fmt.Sprint(x.node.Pivots), fmt.Sprint(x.node.Buf), fmt.Sprint(x.node.Pairs), fmt.Sprint(x.span))
	}
	return fmt.Sprintf("%d: %.1500s", len(l), b.String())
}

// grove is nodes in blocks, on a shelf and beside it.
type grove struct {
	t     *testing.T
	c     api.Config
	nodes map[uint32]api.Node
	d     *dev.Device
	s     *shelf.Shelf
}

// laid is a grove of nodes, all of them written to a device of its own, on which a new shelf stands.
func laid(t *testing.T, c api.Config, nodes map[uint32]api.Node) *grove {
	t.Helper()
	d, err := dev.New(c.Blocks, c.Bytes)
	if err != api.OK {
		t.Fatalf("a device for %+v: %d", c, err)
	}
	g := &grove{t: t, c: c, nodes: nodes, d: d}
	g.anew()
	for _, i := range slices.Sorted(maps.Keys(nodes)) {
		if err := g.s.Save(i, nodes[i]); err != api.OK {
			t.Fatalf("Save(%d) of %s = %d", i, told([]seen{{i, nodes[i], api.Span{}}}), err)
		}
	}
	if err := g.s.Flush(); err != api.OK {
		t.Fatalf("Flush = %d", err)
	}
	g.anew()
	return g
}

// anew has a new shelf stand on the device, which has no block in any frame.
func (g *grove) anew() {
	g.t.Helper()
	s, err := shelf.New(g.c, g.d)
	if err != api.OK {
		g.t.Fatalf("a shelf of %+v: %d", g.c, err)
	}
	g.s = s
}

// has tells whether a span has a key.
func has(s api.Span, key string) bool { return s.Lo <= key && (s.Top || key < s.Hi) }

// rises tells whether keys rise strictly, and may all be in a node for that span.
func rises(c api.Config, s api.Span, keys []string) bool {
	for at, key := range keys {
		if len(key) < 1 || len(key) > c.Key || !has(s, key) || at > 0 && keys[at-1] >= key {
			return false
		}
	}
	return true
}

// may tells whether a node that stands in a block, so that it is right for all keys, is right for that span, too.
func may(c api.Config, s api.Span, n api.Node) bool {
	var keys []string
	for _, p := range n.Pairs {
		keys = append(keys, p.Key)
	}
	for _, m := range n.Buf {
		keys = append(keys, m.Key)
	}
	return rises(c, s, keys) && rises(c, s, n.Pivots) && !slices.Contains(n.Pivots, s.Lo)
}

// spans are those of a node's kids, if it is right for that span: each begins where the one ahead ends.
func spans(n api.Node, s api.Span) []api.Span {
	var l []api.Span
	lo := s.Lo
	for _, pivot := range n.Pivots {
		l = append(l, below(lo, pivot))
		lo = pivot
	}
	return append(l, api.Span{Lo: lo, Hi: s.Hi, Top: s.Top})
}

// reader reads a tree as the words have it.
type reader struct {
	g   *grove
	met map[uint32]bool
	l   []seen
}

// read reads a block, which must have a node of that Level (of any, if it is below 0) that is right for that span, and all below it.
func (r *reader) read(i uint32, level int, s api.Span) api.Errno {
	n, ok := r.g.nodes[i]
	again := r.met[i]
	r.met[i] = true
	if again || !ok || level >= 0 && n.Level != level || !may(r.g.c, s, n) {
		return api.ErrCorrupt
	}
	r.l = append(r.l, seen{i, n, s})
	for at, kid := range n.Kids {
		if err := r.read(kid, n.Level-1, spans(n, s)[at]); err != api.OK {
			return err
		}
	}
	return api.OK
}

// walk is what All must tell and answer, and how many blocks it must load for that.
func (g *grove) walk(root uint32) ([]seen, api.Errno, int) {
	if root == 0 || uint64(root) >= uint64(g.c.Blocks) {
		return nil, api.ErrRange, 0
	}
	r := &reader{g: g, met: map[uint32]bool{}}
	err := r.read(root, -1, api.Span{Top: true})
	return r.l, err, len(r.met)
}

// tell goes through all by the call, asking for so many at most (for all, if that is below 0).
func tell(s *shelf.Shelf, root uint32, most int) ([]seen, api.Errno) {
	var l []seen
	err := walk.All(s, root, func(i uint32, n api.Node, p api.Span) bool {
		l = append(l, seen{i, n, p})
		return len(l) != most
	})
	return l, err
}

// report is what Look must answer of what is told of a sound tree.
func report(l []seen) walk.Report {
	r := walk.Report{Height: l[0].node.Level + 1, Nodes: len(l)}
	for _, x := range l {
		if x.node.Level == 0 {
			r.Leaves++
		}
		r.Pairs += len(x.node.Pairs)
		r.Msgs += len(x.node.Buf)
	}
	return r
}

// blocks are those of what is told, rising.
func blocks(l []seen) []uint32 {
	var at []uint32
	for _, x := range l {
		at = append(at, x.block)
	}
	slices.Sort(at)
	return at
}

// cost holds what a call cost against how many blocks it may load, and, if none was in a frame ahead of it, against how many it must.
func (g *grove) cost(ahead api.Stats, loads int, fresh bool, what string) {
	g.t.Helper()
	now := g.d.Stats()
	reads, writes := now.Reads-ahead.Reads, now.Writes-ahead.Writes
	if reads > uint64(loads) || writes > uint64(loads) {
		g.t.Fatalf("%s read %d and wrote %d, loading %d blocks", what, reads, writes, loads)
	}
	if fresh && (reads != uint64(loads) || writes != 0) {
		g.t.Fatalf("%s, with no block in a frame, read %d and wrote %d, not %d and 0", what, reads, writes, loads)
	}
}

// begin is how the device stands ahead of a call; if fresh, a new shelf stands on it.
func (g *grove) begin(fresh bool) api.Stats {
	g.t.Helper()
	if fresh {
		g.anew()
	}
	return g.d.Stats()
}

// held holds the three calls for a root against the words.
func (g *grove) held(root uint32, fresh bool) {
	g.t.Helper()
	want, wantErr, loads := g.walk(root)
	g.heldAll(root, fresh, want, wantErr, loads)
	g.heldNobody(root, fresh, wantErr, loads)
	g.heldLook(root, fresh, want, wantErr, loads)
	g.heldBlocks(root, fresh, want, wantErr, loads)
}

func (g *grove) heldAll(root uint32, fresh bool, want []seen, wantErr api.Errno, loads int) {
	g.t.Helper()
	ahead := g.begin(fresh)
	l, err := tell(g.s, root, -1)
	if err != wantErr || !slices.EqualFunc(l, want, same) {
		g.t.Fatalf("All(%d) = %d, told %s, not %d, %s", root, err, told(l), wantErr, told(want))
	}
	g.cost(ahead, loads, fresh, fmt.Sprintf("All(%d)", root))
}

func (g *grove) heldNobody(root uint32, fresh bool, wantErr api.Errno, loads int) {
	g.t.Helper()
	ahead := g.begin(fresh)
	if err := walk.All(g.s, root, nil); err != wantErr {
		g.t.Fatalf("All(%d) with nobody told = %d, not %d", root, err, wantErr)
	}
	g.cost(ahead, loads, fresh, fmt.Sprintf("All(%d) with nobody told", root))
}

func (g *grove) heldLook(root uint32, fresh bool, want []seen, wantErr api.Errno, loads int) {
	g.t.Helper()
	var wantReport walk.Report
	if wantErr == api.OK {
		wantReport = report(want)
	}
	ahead := g.begin(fresh)
	if r, err := walk.Look(g.s, root); r != wantReport || err != wantErr {
		g.t.Fatalf("Look(%d) = %+v, %d, not %+v, %d; of %s", root, r, err, wantReport, wantErr, told(want))
	}
	g.cost(ahead, loads, fresh, fmt.Sprintf("Look(%d)", root))
}

func (g *grove) heldBlocks(root uint32, fresh bool, want []seen, wantErr api.Errno, loads int) {
	g.t.Helper()
	var wantBlocks []uint32
	if wantErr == api.OK {
		wantBlocks = blocks(want)
	}
	ahead := g.begin(fresh)
	if l, err := walk.Blocks(g.s, root); !slices.Equal(l, wantBlocks) || err != wantErr {
		g.t.Fatalf("Blocks(%d) = %v, %d, not %v, %d", root, l, err, wantBlocks, wantErr)
	}
	g.cost(ahead, loads, fresh, fmt.Sprintf("Blocks(%d)", root))
}

// wrong holds the three calls for a root that is an error's from the beginning on against it.
func wrong(t *testing.T, s *shelf.Shelf, root uint32, err api.Errno) {
	t.Helper()
	if l, no := tell(s, root, -1); no != err || l != nil {
		t.Fatalf("All(%d) = %d, told %s, not %d", root, no, told(l), err)
	}
	if no := walk.All(s, root, nil); no != err {
		t.Fatalf("All(%d) with nobody told = %d, not %d", root, no, err)
	}
	if r, no := walk.Look(s, root); no != err || r != (walk.Report{}) {
		t.Fatalf("Look(%d) = %+v, %d, not %d", root, r, no, err)
	}
	if l, no := walk.Blocks(s, root); no != err || len(l) > 0 {
		t.Fatalf("Blocks(%d) = %v, %d, not %d", root, l, no, err)
	}
}

// three is a tree of three Levels, in blocks in no order.
func three() map[uint32]api.Node {
	return map[uint32]api.Node{
		9: inner(2, "b=1 d! h=", "f", 4, 2),
		4: inner(1, "b=2 c! d=2", "c e", 7, 1, 3),
		2: inner(1, "g! h=3", "", 8),
		7: leaf("a=4 b=4"),
		1: leaf("c=4 d=4"),
		3: leaf("e=4"),
		8: leaf("f=4 g=4 h=4"),
	}
}

// threeOrder are the blocks of that tree as they must be told, and their spans.
func threeOrder() []seen {
	of := three()
	return []seen{
		{9, of[9], from("")},
		{4, of[4], below("", "f")}, {7, of[7], below("", "c")}, {1, of[1], below("c", "e")}, {3, of[3], below("e", "f")},
		{2, of[2], from("f")}, {8, of[8], from("f")},
	}
}

func TestExample(t *testing.T) {
	for _, c := range settings() {
		g := laid(t, c, map[uint32]api.Node{2: {}})
		if r, err := walk.Look(g.s, 2); r != (walk.Report{Height: 1, Nodes: 1, Leaves: 1}) || err != api.OK {
			t.Errorf("Look(2) of an empty leaf = %+v, %d", r, err)
		}
		if l, err := walk.Blocks(g.s, 2); !slices.Equal(l, []uint32{2}) || err != api.OK {
			t.Errorf("Blocks(2) of an empty leaf = %v, %d", l, err)
		}
		if l, err := tell(g.s, 2, -1); len(l) != 1 || !same(l[0], seen{2, api.Node{}, lex.All()}) || err != api.OK {
			t.Errorf("All(2) of an empty leaf = %d, told %s", err, told(l))
		}
		g.held(2, true)
		wrong(t, g.s, 1, api.ErrCorrupt)
	}
}

// P20.1 and P20.2, each answer reckoned by hand.
func TestByHand(t *testing.T) {
	g := laid(t, some, three())
	if l, err := tell(g.s, 9, -1); err != api.OK || !slices.EqualFunc(l, threeOrder(), same) {
		t.Errorf("All(9) = %d, told %s", err, told(l))
	}
	if r, err := walk.Look(g.s, 9); r != (walk.Report{Height: 3, Nodes: 7, Leaves: 4, Pairs: 8, Msgs: 8}) || err != api.OK {
		t.Errorf("Look(9) = %+v, %d", r, err)
	}
	if l, err := walk.Blocks(g.s, 9); !slices.Equal(l, []uint32{1, 2, 3, 4, 7, 8, 9}) || err != api.OK {
		t.Errorf("Blocks(9) = %v, %d", l, err)
	}
	if r, err := walk.Look(g.s, 4); r != (walk.Report{Height: 2, Nodes: 4, Leaves: 3, Pairs: 5, Msgs: 3}) || err != api.OK {
		t.Errorf("Look(4) = %+v, %d", r, err)
	}
	if l, err := walk.Blocks(g.s, 4); !slices.Equal(l, []uint32{1, 3, 4, 7}) || err != api.OK {
		t.Errorf("Blocks(4) = %v, %d", l, err)
	}
	if l, err := tell(g.s, 4, -1); err != api.OK || len(l) != 4 || l[3].span != from("e") {
		t.Errorf("All(4) = %d, told %s", err, told(l))
	}
}

// Each node of a sound tree is itself the root of one.
func TestEachNodeAsRoot(t *testing.T) {
	g := laid(t, some, three())
	for root := range uint32(some.Blocks + 3) {
		g.held(root, true)
		g.held(root, false)
		_, ok := g.nodes[root]
		if err := walk.All(g.s, root, nil); (err == api.OK) != ok {
			t.Errorf("All(%d) = %d", root, err)
		}
	}
}

// small are some small nodes for settings of four blocks, unlike each other; one stands for none.
func small() []api.Node {
	return []api.Node{
		{},
		leaf("a c"),
		leaf("b"),
		inner(1, "", "", 2),
		inner(1, "a", "", 4),
		inner(1, "c!", "b", 3, 1),
		inner(1, "b", "b c", 1, 4, 2),
		inner(1, "c", "c", 4, 3),
		inner(2, "", "", 3),
		inner(2, "a!", "c", 2, 3),
		inner(2, "b c!", "a b", 3, 4, 1),
		inner(3, "b!", "b", 4, 1),
		inner(40, "c", "", 1),
		{Level: -1},
	}
}

// P20.1 and P20.2: all rows of three of some nodes, whatever they lead to, with a leaf behind them.
func TestAllOfThreeBlocks(t *testing.T) {
	of := small()
	sound := map[int]int{}
	for x := range of {
		for y := range of {
			for z := range of {
				nodes := map[uint32]api.Node{4: leaf("b")}
				for i, at := range []int{x, y, z} {
					if of[at].Level >= 0 {
						nodes[uint32(i+1)] = of[at]
					}
				}
				g := laid(t, few, nodes)
				for root := uint32(1); root < 5; root++ {
					g.held(root, false)
					if l, err, _ := g.walk(root); err == api.OK {
						sound[len(l)]++
					}
				}
			}
		}
	}
	if sound[1] < 1000 || sound[2] < 100 || sound[3] < 20 || sound[4] < 1 {
		t.Errorf("so many trees of so many nodes were sound: %v", sound)
	}
}

// grower grows sound trees by chance.
type grower struct {
	r     *rand.Rand
	c     api.Config
	pool  []string
	kids  int
	free  []uint32
	nodes map[uint32]api.Node
}

// growing is one for settings, of keys by chance that they allow.
func growing(r *rand.Rand, c api.Config, keys, kids int) *grower {
	g := &grower{r: r, c: c, kids: kids, nodes: map[uint32]api.Node{}}
	for range keys {
		key := make([]byte, 1+r.Intn(c.Key))
		for i := range key {
			key[i] = byte(r.Intn(256))
		}
		g.pool = append(g.pool, string(key))
	}
	slices.Sort(g.pool)
	g.pool = slices.Compact(g.pool)
	for _, i := range r.Perm(c.Blocks - 1) {
		g.free = append(g.free, uint32(i+1))
	}
	return g
}

// pick is some of the pool's keys from lo on, below hi, at most so many.
func (g *grower) pick(lo, hi, most int) []string {
	if lo >= hi {
		return nil
	}
	var l []string
	for range g.r.Intn(most + 1) {
		l = append(l, g.pool[lo+g.r.Intn(hi-lo)])
	}
	slices.Sort(l)
	return slices.Compact(l)
}

// val is a value by chance.
func (g *grower) val() string {
	return strings.Repeat(string([]byte{byte(g.r.Intn(256))}), g.r.Intn(g.c.Val+1))
}

// grow lays a node of that Level, for the pool's keys from lo on, below hi, with all that hangs below it; its block.
func (g *grower) grow(level, lo, hi int) uint32 {
	i := g.free[0]
	g.free = g.free[1:]
	n := api.Node{Level: level}
	if level == 0 {
		for _, key := range g.pick(lo, hi, g.c.Leaf) {
			n.Pairs = append(n.Pairs, api.Pair{Key: key, Val: g.val()})
		}
		g.nodes[i] = n
		return i
	}
	n.Pivots = g.pick(lo+1, hi, min(g.kids, g.c.Fan)-1)
	for _, key := range g.pick(lo, hi, g.c.Buffer) {
		m := api.Msg{Key: key, Del: g.r.Intn(3) == 0}
		if !m.Del {
			m.Val = g.val()
		}
		n.Buf = append(n.Buf, m)
	}
	from := lo
	for _, pivot := range n.Pivots {
		to, _ := slices.BinarySearch(g.pool, pivot)
		n.Kids = append(n.Kids, g.grow(level-1, from, to))
		from = to
	}
	n.Kids = append(n.Kids, g.grow(level-1, from, hi))
	g.nodes[i] = n
	return i
}

// P20.1, P20.2 and P20.4: sound trees of few and of many nodes.
func TestSoundTrees(t *testing.T) {
	r := rand.New(rand.NewSource(20))
	for _, x := range []struct {
		c                        api.Config
		level, kids, keys, times int
	}{
		{few, 0, 1, 20, 20}, {few, 1, 2, 20, 20}, {few, 2, 1, 20, 20}, {few, 3, 1, 20, 20},
		{some, 1, 8, 60, 40}, {some, 2, 6, 60, 40}, {some, 3, 4, 60, 40}, {some, 40, 1, 60, 10},
		{odd, 1, 11, 90, 20}, {odd, 2, 11, 90, 20}, {odd, 3, 6, 90, 20}, {odd, 5, 2, 90, 20},
		{many, 1, 64, 700, 2}, {many, 2, 9, 900, 2}, {many, 7, 2, 200, 1},
		{long, 2, 8, 60, 10}, {long, 6, 2, 60, 10},
	} {
		for range x.times {
			b := growing(r, x.c, x.keys, x.kids)
			root := b.grow(x.level, 0, len(b.pool))
			g := laid(t, x.c, b.nodes)
			if l, err, _ := g.walk(root); err != api.OK || len(l) != len(g.nodes) {
				t.Fatalf("this test's tree is not sound: %d of %d, %d", len(l), len(g.nodes), err)
			}
			g.held(root, true)
			g.held(root, false)
		}
	}
}

// full is a tree of that Level in which each node has Fan kids, its blocks from the one behind the last that has a node on, each behind what hangs below it; its block.
func full(c api.Config, nodes map[uint32]api.Node, level int, lo int, wide int) uint32 {
	n := api.Node{Level: level}
	if level == 0 {
		n.Pairs = []api.Pair{{Key: number(lo)}}
	}
	for at := range c.Fan {
		if level == 0 {
			break
		}
		first := lo + at*wide/c.Fan
		if at > 0 {
			n.Pivots = append(n.Pivots, number(first))
		}
		n.Kids = append(n.Kids, full(c, nodes, level-1, first, wide/c.Fan))
	}
	i := uint32(len(nodes) + 1)
	nodes[i] = n
	return i
}

// number is a key that stands as its number does.
func number(n int) string { return string([]byte{byte(n >> 8), byte(n)}) }

// P20.1, P20.2 and P20.4: a tree of a great many nodes, each loaded once.
func TestGreatTree(t *testing.T) {
	c := api.Config{Blocks: 65536, Bytes: 180, Frames: 8, Fan: 8, Buffer: 16, Leaf: 16, Key: 2, Val: 0}
	nodes := map[uint32]api.Node{}
	root := full(c, nodes, 5, 0, 32768)
	g := laid(t, c, nodes)
	g.held(root, true)
	if r, err := walk.Look(g.s, root); r != (walk.Report{Height: 6, Nodes: 37449, Leaves: 32768, Pairs: 32768}) || err != api.OK {
		t.Errorf("Look = %+v, %d", r, err)
	}
	// Its last leaf is the last block that may be.
	last := nodes[root]
	for last.Level > 1 {
		last = nodes[last.Kids[c.Fan-1]]
	}
	end := last.Kids[c.Fan-1]
	nodes[65535] = nodes[end]
	delete(nodes, end)
	last.Kids[c.Fan-1] = 65535
	g = laid(t, c, nodes)
	g.held(root, true)
	if l, err := walk.Blocks(g.s, root); len(l) != 37449 || l[len(l)-1] != 65535 || slices.Contains(l, end) || err != api.OK {
		t.Errorf("Blocks: %d, %d", len(l), err)
	}
}

// chanced are nodes by chance in blocks from 1 on, of few Levels; some blocks have none; what hangs below them is anything.
func chanced(r *rand.Rand, c api.Config, blocks int) map[uint32]api.Node {
	levels := make([]int, blocks+1)
	for i := range levels {
		levels[i] = r.Intn(5) - 1
	}
	near := func(level int) uint32 {
		i := 1 + r.Intn(blocks)
		for range 8 {
			if levels[i] == level-1 {
				break
			}
			i = 1 + r.Intn(blocks)
		}
		return uint32(i)
	}
	letters := func(most int) []string {
		var l []string
		for _, at := range r.Perm(26)[:r.Intn(most+1)] {
			l = append(l, string([]byte{byte('a' + at)}))
		}
		slices.Sort(l)
		return l
	}
	nodes := map[uint32]api.Node{}
	for i := 1; i <= blocks; i++ {
		n := api.Node{Level: levels[i]}
		switch {
		case n.Level < 0:
			continue
		case n.Level == 0:
			n.Pairs = leaf(strings.Join(letters(2), " ")).Pairs
		default:
			for range 1 + r.Intn(3) {
				if k := near(n.Level); !slices.Contains(n.Kids, k) {
					n.Kids = append(n.Kids, k)
				}
			}
			for len(n.Pivots) != len(n.Kids)-1 {
				n.Pivots = letters(4)
			}
			for _, key := range letters(1) {
				n.Buf = append(n.Buf, api.Msg{Key: key, Del: r.Intn(2) == 0})
			}
		}
		nodes[uint32(i)] = n
	}
	return nodes
}

// P20.1, P20.2 and P20.4: nodes that are no tree, as a device may have any.
func TestUnsoundTrees(t *testing.T) {
	r := rand.New(rand.NewSource(21))
	ended, deep := map[api.Errno]int{}, 0
	for range 1500 {
		c := []api.Config{few, some, odd}[r.Intn(3)]
		n := min(c.Blocks-1, 3+r.Intn(20))
		g := laid(t, c, chanced(r, c, n))
		for root := uint32(0); root <= uint32(n)+1; root++ {
			g.held(root, r.Intn(2) == 0)
			l, err, _ := g.walk(root)
			ended[err]++
			if err != api.OK && len(l) > 3 {
				deep++
			}
		}
	}
	if ended[api.OK] < 2000 || ended[api.ErrCorrupt] < 10000 || ended[api.ErrRange] < 1000 || deep < 100 {
		t.Errorf("the walks ended as %v, %d of them behind more than three nodes", ended, deep)
	}
}

// parent is the block whose node has that one as a kid.
func parent(nodes map[uint32]api.Node, kid uint32) uint32 {
	for i, n := range nodes {
		if slices.Contains(n.Kids, kid) {
			return i
		}
	}
	return 0
}

// with are nodes, of which one is another one.
func with(nodes map[uint32]api.Node, i uint32, n api.Node) map[uint32]api.Node {
	l := maps.Clone(nodes)
	l[i] = n
	return l
}

// leading are nodes, of which one has another block as its kid at that place.
func leading(nodes map[uint32]api.Node, i uint32, at int, kid uint32) map[uint32]api.Node {
	n := nodes[i]
	n.Kids = slices.Clone(n.Kids)
	n.Kids[at] = kid
	return with(nodes, i, n)
}

// fault holds nodes, which are not sound by what stands in place of the block at that place of a sound order, against the words: just what is ahead of it is told.
func (g *grove) fault(root uint32, order []seen, at int, nodes map[uint32]api.Node, what string) {
	g.t.Helper()
	bad := laid(g.t, g.c, nodes)
	bad.held(root, true)
	l, err := tell(bad.s, root, -1)
	if err != api.ErrCorrupt || len(l) != at {
		g.t.Fatalf("%s: All = %d, told %s, not %d", what, err, told(l), at)
	}
	for i, x := range l {
		if x.block != order[i].block || x.span != order[i].span {
			g.t.Fatalf("%s: told %s", what, told(l))
		}
	}
}

// outside are keys of one or two bytes that a span has not, as near as may be, and its Lo, if that is one.
func outside(s api.Span) []string {
	var l []string
	if s.Lo != "" {
		b := s.Lo[len(s.Lo)-1]
		l = append(l, s.Lo[:len(s.Lo)-1]+string([]byte{b - 1}), s.Lo[:len(s.Lo)-1]+string([]byte{b - 1, 0xff})[:min(2, 3-len(s.Lo))], "\x00")
	}
	if !s.Top {
		l = append(l, s.Hi, "\xff\xff")
		if len(s.Hi) == 1 {
			l = append(l, s.Hi+"\x00")
		}
	}
	return l
}

// within are keys of one or two bytes that a span has, as near to its ends as may be.
func within(s api.Span) []string {
	l := []string{"\x00"}
	if s.Lo != "" {
		l = []string{s.Lo}
	}
	if s.Top {
		return append(l, "\xff\xff")
	}
	return append(l, string([]byte{s.Hi[0] - 1, 0xff}))
}

// P20.1: one fault in a sound tree, at each of its places: keys, messages and pivots that the span has not, and its Lo as a pivot.
func TestKeysOutside(t *testing.T) {
	g := laid(t, some, three())
	order := threeOrder()
	for at, x := range order {
		for _, key := range outside(x.span) {
			n := api.Node{Pairs: []api.Pair{{Key: key}}}
			if x.node.Level > 0 {
				n = api.Node{Level: x.node.Level, Kids: x.node.Kids, Pivots: x.node.Pivots, Buf: []api.Msg{{Key: key, Del: true}}}
			}
			g.fault(9, order, at, with(three(), x.block, n), fmt.Sprintf("%q in block %d", key, x.block))
		}
		for _, key := range within(x.span) {
			n := api.Node{Pairs: []api.Pair{{Key: key}}}
			if x.node.Level > 0 {
				n = api.Node{Level: x.node.Level, Kids: x.node.Kids, Pivots: x.node.Pivots, Buf: []api.Msg{{Key: key}}}
			}
			good := laid(t, some, with(three(), x.block, n))
			good.held(9, true)
			if err := walk.All(good.s, 9, nil); err != api.OK {
				t.Errorf("%q in block %d: All = %d", key, x.block, err)
			}
		}
	}
}

// P20.1: as above, of pivots; a span's Lo is none that may be, its Hi neither.
func TestPivotsOutside(t *testing.T) {
	sound := map[uint32]api.Node{
		9: inner(2, "", "c f", 4, 2, 5),
		4: inner(1, "", "b", 7, 1),
		2: inner(1, "", "e", 8, 3),
		5: inner(1, "", "h", 10, 11),
		7: {}, 1: {}, 8: {}, 3: {}, 10: {}, 11: {},
	}
	g := laid(t, some, sound)
	order, err := tell(g.s, 9, -1)
	if err != api.OK || len(order) != 10 {
		t.Fatalf("All = %d, told %s", err, told(order))
	}
	for at, x := range order {
		if x.node.Level != 1 {
			continue
		}
		keys := outside(x.span)
		if x.span.Lo != "" {
			keys = append(keys, x.span.Lo)
		}
		for _, key := range keys {
			n := x.node
			n.Pivots = []string{key}
			g.fault(9, order, at, with(sound, x.block, n), fmt.Sprintf("pivot %q in block %d", key, x.block))
		}
		for _, key := range within(api.Span{Lo: lex.Next(x.span.Lo), Hi: x.span.Hi, Top: x.span.Top}) {
			n := x.node
			n.Pivots = []string{key}
			good := laid(t, some, with(sound, x.block, n))
			good.held(9, true)
			if err := walk.All(good.s, 9, nil); err != api.OK {
				t.Errorf("pivot %q in block %d: All = %d", key, x.block, err)
			}
		}
	}
}

// P20.1: one fault in a sound tree, at each of its places: blocks that have no node, or one of another Level, or that were met ahead.
func TestOtherBlocks(t *testing.T) {
	r := rand.New(rand.NewSource(22))
	for range 8 {
		b := growing(r, some, 60, 4)
		root := b.grow(3, 0, len(b.pool))
		g := laid(t, some, b.nodes)
		order, _, _ := g.walk(root)
		for at, x := range order {
			if at > 0 {
				g.otherBlocks(root, order, at, b.free[0])
				g.otherLevels(root, order, at)
			}
			lost := maps.Clone(b.nodes)
			delete(lost, x.block)
			g.fault(root, order, at, lost, fmt.Sprintf("block %d has no node", x.block))
		}
	}
}

// otherBlocks are the faults that one kid is a block that has no node, or one that is told ahead of it.
func (g *grove) otherBlocks(root uint32, order []seen, at int, none uint32) {
	g.t.Helper()
	kid := order[at].block
	up := parent(g.nodes, kid)
	place := slices.Index(g.nodes[up].Kids, kid)
	g.fault(root, order, at, leading(g.nodes, up, place, none), fmt.Sprintf("block %d instead of %d", none, kid))
	for _, x := range order[:at] {
		if !slices.Contains(g.nodes[up].Kids, x.block) {
			g.fault(root, order, at, leading(g.nodes, up, place, x.block), fmt.Sprintf("block %d instead of %d", x.block, kid))
		}
	}
}

// otherLevels are the faults that one node is of another Level, with the kids of the one that it stands for, or none.
func (g *grove) otherLevels(root uint32, order []seen, at int) {
	g.t.Helper()
	x := order[at]
	for _, level := range []int{0, 1, 2, 3, 4, api.MaxLevel} {
		if level == x.node.Level {
			continue
		}
		n := api.Node{Level: level}
		if level > 0 {
			n.Kids, n.Pivots = x.node.Kids, x.node.Pivots
			if len(n.Kids) == 0 {
				n.Kids = []uint32{root}
			}
		}
		g.fault(root, order, at, with(g.nodes, x.block, n), fmt.Sprintf("block %d is of Level %d", x.block, level))
	}
}

// P20.1: a block that stands as a kid twice is told where it comes first, and what is ahead of where it comes again.
func TestTwice(t *testing.T) {
	leafs := map[uint32]api.Node{11: {}, 12: {}, 13: {}, 14: {}}
	for _, x := range []struct {
		nodes map[uint32]api.Node
		want  []uint32
	}{
		{map[uint32]api.Node{1: inner(2, "", "m", 2, 3), 2: inner(1, "", "", 11), 3: inner(1, "", "", 11)}, []uint32{1, 2, 11, 3}},
		{map[uint32]api.Node{1: inner(2, "", "m", 2, 3), 2: inner(1, "", "b", 11, 12), 3: inner(1, "", "p", 13, 11)}, []uint32{1, 2, 11, 12, 3, 13}},
		{map[uint32]api.Node{1: inner(2, "", "m", 2, 3), 2: inner(1, "", "b", 11, 12), 3: inner(1, "", "p", 12, 13)}, []uint32{1, 2, 11, 12, 3}},
		{map[uint32]api.Node{1: inner(3, "", "m", 2, 3), 2: inner(2, "", "", 4), 3: inner(2, "", "", 4), 4: inner(1, "", "", 11)}, []uint32{1, 2, 4, 11, 3}},
		{map[uint32]api.Node{1: inner(1, "", "m", 11, 12), 2: inner(1, "", "m", 12, 11)}, []uint32{1, 11, 12}},
	} {
		nodes := maps.Clone(leafs)
		maps.Copy(nodes, x.nodes)
		g := laid(t, some, nodes)
		g.held(1, true)
		l, err := tell(g.s, 1, -1)
		var at []uint32
		for _, y := range l {
			at = append(at, y.block)
		}
		if twice := len(x.want) > 3; !slices.Equal(at, x.want) || (err == api.ErrCorrupt) != twice {
			t.Errorf("All = %d, told %s, not %v", err, told(l), x.want)
		}
	}
}

// P20.1 and P20.4: Levels must fall by one; a way may have 41 nodes.
func TestLevels(t *testing.T) {
	for upper := 1; upper <= api.MaxLevel; upper++ {
		for lower := range api.MaxLevel + 1 {
			nodes := map[uint32]api.Node{1: inner(upper, "", "", 2)}
			for i := range lower + 1 {
				nodes[uint32(lower+2-i)] = inner(i, "", "", uint32(lower+3-i))
			}
			nodes[uint32(lower+2)] = leaf("a=1")
			g := laid(t, some, nodes)
			g.held(1, true)
			r, err := walk.Look(g.s, 1)
			if lower == upper-1 {
				if err != api.OK || r != (walk.Report{Height: upper + 1, Nodes: upper + 1, Leaves: 1, Pairs: 1}) {
					t.Errorf("a node of Level %d below one of %d: Look = %+v, %d", lower, upper, r, err)
				}
			} else if l, no := tell(g.s, 1, -1); err != api.ErrCorrupt || no != api.ErrCorrupt || len(l) != 1 {
				t.Errorf("a node of Level %d below one of %d: Look = %d, All = %d, told %s", lower, upper, err, no, told(l))
			}
		}
	}
}

// P20.4: a tree that leads back to its own blocks ends.
func TestRings(t *testing.T) {
	for _, nodes := range []map[uint32]api.Node{
		{1: inner(1, "", "", 1)},
		{1: inner(40, "", "", 1)},
		{1: inner(2, "", "", 2), 2: inner(1, "", "", 1)},
		{1: inner(1, "", "", 2), 2: inner(1, "", "", 1)},
		{1: inner(3, "", "", 2), 2: inner(2, "", "", 3), 3: inner(1, "", "", 1)},
		{1: inner(3, "", "", 2), 2: inner(2, "", "", 3), 3: inner(1, "", "", 2)},
		{1: inner(3, "", "m", 2, 1), 2: inner(2, "", "", 3), 3: inner(1, "", "b", 2, 3)},
	} {
		g := laid(t, some, nodes)
		for root := range nodes {
			g.held(root, true)
			g.held(root, false)
			if err := walk.All(g.s, root, nil); err != api.ErrCorrupt {
				t.Errorf("All(%d) of %v = %d", root, nodes, err)
			}
		}
	}
}

// P20.4: nodes to which more ways lead than anybody could go are loaded once each, and a great many ahead of a fault, too.
func TestManyWays(t *testing.T) {
	nodes := map[uint32]api.Node{1: leaf(""), 2: leaf("")}
	for level := 1; level <= api.MaxLevel; level++ {
		i := uint32(2*level + 1)
		pivot := string([]byte{byte(level + 1)})
		nodes[i], nodes[i+1] = inner(level, "", "", i-2, i-1), inner(level, "", "", i-1, i-2)
		for _, at := range []uint32{i, i + 1} {
			n := nodes[at]
			n.Pivots = []string{pivot}
			nodes[at] = n
		}
	}
	g := laid(t, some, nodes)
	for root := range nodes {
		g.held(root, true)
	}
	// Blocks that are in no frame any more stand once more as the last one.
	c := api.Config{Blocks: 600, Bytes: 180, Frames: 8, Fan: 8, Buffer: 16, Leaf: 16, Key: 2, Val: 0}
	sound := map[uint32]api.Node{}
	root := full(c, sound, 3, 0, 512)
	g = laid(t, c, sound)
	order, _, _ := g.walk(root)
	end := len(order) - 1
	up := parent(sound, order[end].block)
	for at := 0; at < end-8; at += 7 {
		x := order[at]
		g.fault(root, order, end, leading(sound, up, 7, x.block), fmt.Sprintf("block %d at the end", x.block))
	}
}

// P20.1: where on is false, nothing more is told, or loaded, and the answer is OK, whatever stands behind.
func TestStops(t *testing.T) {
	r := rand.New(rand.NewSource(23))
	for round := range 60 {
		c := []api.Config{some, odd, long}[r.Intn(3)]
		b := growing(r, c, 60, 3)
		root := b.grow(3, 0, len(b.pool))
		g := laid(t, c, b.nodes)
		order, _, _ := g.walk(root)
		if round%2 == 1 {
			// All is lost but a row of blocks at the front.
			for _, x := range order[1+r.Intn(len(order)):] {
				delete(g.nodes, x.block)
			}
			g = laid(t, c, g.nodes)
		}
		for most := 1; most <= len(order)+1; most++ {
			ahead := g.begin(true)
			l, err := tell(g.s, root, most)
			want, wantErr, loads := g.walk(root)
			if most <= len(want) {
				want, wantErr, loads = want[:most], api.OK, most
			}
			if err != wantErr || !slices.EqualFunc(l, want, same) {
				t.Fatalf("All(%d), %d nodes asked = %d, told %s, not %d, %s", root, most, err, told(l), wantErr, told(want))
			}
			g.cost(ahead, loads, true, fmt.Sprintf("All(%d), %d nodes asked", root, most))
		}
	}
}

// P20.1: what is told of each node is asked alone, not what was told ahead.
func TestStopsByNode(t *testing.T) {
	g := laid(t, some, three())
	for at, x := range threeOrder() {
		n := 0
		err := walk.All(g.s, 9, func(i uint32, _ api.Node, _ api.Span) bool {
			n++
			return i != x.block
		})
		if n != at+1 || err != api.OK {
			t.Errorf("up to block %d: %d nodes told, %d", x.block, n, err)
		}
	}
}

// P20.1 and P20.2: a root that is no block of nodes; of blocks with other bytes there is none.
func TestWrongRoots(t *testing.T) {
	for _, c := range settings() {
		g := laid(t, c, map[uint32]api.Node{1: {}, 3: inner(1, "", "", 1)})
		n := uint32(c.Blocks)
		for _, root := range []uint32{0, n, n + 1, n + 3, 65536, 65537, 65539, 1 << 31, 1<<31 + 1, math.MaxUint32 - 1, math.MaxUint32} {
			ahead := g.begin(true)
			wrong(t, g.s, root, api.ErrRange)
			g.cost(ahead, 0, true, fmt.Sprintf("asking for block %d", root))
		}
		for _, root := range []uint32{2, 4, n - 1} {
			wrong(t, g.s, root, api.ErrCorrupt)
			g.held(root, true)
		}
	}
}

// A shelf that is nil, or that nobody made, has no tree.
func TestNobodyMadeIt(t *testing.T) {
	for _, s := range []*shelf.Shelf{nil, {}, new(shelf.Shelf)} {
		for _, root := range []uint32{0, 1, 2, 100, math.MaxUint32} {
			wrong(t, s, root, api.ErrNil)
		}
	}
}

// P20.4: any bytes may stand in a block: with each byte of a tree's blocks turned, what is told is still that of what can be read.
func TestAnyBytes(t *testing.T) {
	c := few
	nodes := map[uint32]api.Node{1: inner(2, "c", "b", 2, 3), 2: inner(1, "a!", "", 4), 3: inner(1, "", "", 4), 4: leaf("a")}
	image := laid(t, c, nodes).d.Image()
	for at := c.Bytes; at < len(image); at++ {
		for _, turn := range []byte{1, 2, 3, 4, 5, 6, 7, 128, 255} {
			b := slices.Clone(image)
			b[at] ^= turn
			d, _ := dev.From(c.Bytes, b)
			s, _ := shelf.New(c, d)
			g := &grove{t: t, c: c, nodes: map[uint32]api.Node{}, d: d, s: s}
			for i := uint32(1); i < uint32(c.Blocks); i++ {
				if n, err := s.Load(i); err == api.OK {
					g.nodes[i] = n
				}
			}
			for root := uint32(1); root < uint32(c.Blocks); root++ {
				g.held(root, false)
			}
		}
	}
}

// A tree is that of what was saved last, written or not, and it is not asked whether its blocks are held, or kept.
func TestAsSaved(t *testing.T) {
	r := rand.New(rand.NewSource(24))
	g := laid(t, some, chanced(r, some, 12))
	for range 3000 {
		for i, n := range chanced(r, some, 12) {
			if r.Intn(6) > 0 {
				continue
			}
			g.nodes[i] = n
			if err := g.s.Save(i, n); err != api.OK {
				t.Fatalf("Save(%d) = %d", i, err)
			}
		}
		switch i := uint32(1 + r.Intn(12)); r.Intn(6) {
		case 0:
			g.s.Mark(i)
		case 1:
			g.s.Keep(uint32(r.Intn(13)))
		case 2:
			g.s.Flush()
		}
		g.held(uint32(1+r.Intn(12)), false)
	}
}

// The calls change nothing of a shelf that can be told, nor of what the device has.
func TestNothingChanges(t *testing.T) {
	r := rand.New(rand.NewSource(25))
	for range 40 {
		g := laid(t, some, chanced(r, some, 20))
		for i := range uint32(30) {
			if r.Intn(2) == 0 {
				g.s.Mark(i + 1)
			}
		}
		kept := uint32(1 + r.Intn(20))
		g.s.Mark(kept)
		g.s.Keep(kept)
		held, left, image := g.s.Held(), g.s.Left(), g.d.Image()
		for root := range uint32(22) {
			g.held(root, false)
		}
		if !slices.Equal(g.s.Held(), held) || g.s.Left() != left || g.s.Config() != some || !bytes.Equal(g.d.Image(), image) {
			t.Fatalf("Held %v, Left %d, not %v, %d; or settings, or the device's bytes", g.s.Held(), g.s.Left(), held, left)
		}
		if err := g.s.Free(kept); err != api.ErrState {
			t.Fatalf("block %d is not kept any more: Free = %d", kept, err)
		}
		if err := g.s.Flush(); err != api.OK || g.d.Stats().Writes != uint64(len(g.nodes)) {
			t.Fatalf("Flush = %d; %v behind all, of %d nodes saved", err, g.d.Stats(), len(g.nodes))
		}
	}
}

// scrawl changes all that a node has, its spare room included.
func scrawl(n *api.Node) {
	for i := range n.Kids[:cap(n.Kids)] {
		n.Kids[:cap(n.Kids)][i] = 77
	}
	for i := range n.Pivots[:cap(n.Pivots)] {
		n.Pivots[:cap(n.Pivots)][i] = "x"
	}
	for i := range n.Buf[:cap(n.Buf)] {
		n.Buf[:cap(n.Buf)][i] = api.Msg{Key: "x", Val: "x"}
	}
	for i := range n.Pairs[:cap(n.Pairs)] {
		n.Pairs[:cap(n.Pairs)][i] = api.Pair{Key: "x", Val: "x"}
	}
	n.Level, n.Kids = 99, append(n.Kids, 78)
}

// What is told is new memory: who is told may change it, and all that follows is as it would have been.
func TestMemory(t *testing.T) {
	r := rand.New(rand.NewSource(26))
	for range 40 {
		b := growing(r, odd, 60, 4)
		root := b.grow(3, 0, len(b.pool))
		g := laid(t, odd, b.nodes)
		want, _, _ := g.walk(root)
		var nodes []api.Node
		err := walk.All(g.s, root, func(i uint32, n api.Node, p api.Span) bool {
			if !same(seen{i, n, p}, want[len(nodes)]) {
				t.Fatalf("told %s, not %s", told([]seen{{i, n, p}}), told(want[len(nodes):][:1]))
			}
			nodes = append(nodes, n)
			scrawl(&n)
			p.Lo, p.Hi, p.Top = "x", "y", false
			return true
		})
		if err != api.OK || len(nodes) != len(want) {
			t.Fatalf("All = %d, told %d, not %d", err, len(nodes), len(want))
		}
		g.held(root, false)
		one, _ := walk.Blocks(g.s, root)
		two, _ := walk.Blocks(g.s, root)
		for i := range one[:cap(one)] {
			one[:cap(one)][i] = 77
		}
		if !slices.Equal(two, blocks(want)) {
			t.Fatalf("the blocks told ahead are now %v", two)
		}
		g.held(root, false)
	}
}

// What is told stays as it is while all the others are told.
func TestToldStays(t *testing.T) {
	r := rand.New(rand.NewSource(27))
	for range 20 {
		b := growing(r, some, 60, 4)
		root := b.grow(3, 0, len(b.pool))
		g := laid(t, some, b.nodes)
		l, _ := tell(g.s, root, -1)
		want, _, _ := g.walk(root)
		for at := range l {
			scrawl(&l[at].node)
			if !slices.EqualFunc(l[at+1:], want[at+1:], same) {
				t.Fatalf("with node %d changed, the others are %s", at, told(l[at+1:]))
			}
		}
		g.held(root, false)
	}
}

// A walk within a walk goes its own way.
func TestWithin(t *testing.T) {
	g := laid(t, some, three())
	order := threeOrder()
	at := 0
	err := walk.All(g.s, 9, func(i uint32, n api.Node, p api.Span) bool {
		if !same(seen{i, n, p}, order[at]) {
			t.Fatalf("told %s, not %s", told([]seen{{i, n, p}}), told(order[at:at+1]))
		}
		at++
		for root := range uint32(12) {
			g.held(root, false)
		}
		return true
	})
	if err != api.OK || at != len(order) {
		t.Errorf("All = %d, told %d", err, at)
	}
}

// P20.4: it ends, and tells no block twice, also if who is told changes what blocks have, and where nodes lead.
func TestChangedMeanwhile(t *testing.T) {
	r := rand.New(rand.NewSource(28))
	for range 300 {
		g := laid(t, some, chanced(r, some, 30))
		met := map[uint32]bool{}
		err := walk.All(g.s, uint32(1+r.Intn(30)), func(i uint32, _ api.Node, _ api.Span) bool {
			if met[i] {
				t.Fatalf("block %d is told twice", i)
			}
			met[i] = true
			for at, n := range chanced(r, some, 30) {
				g.s.Save(at, n)
				g.s.Mark(at)
			}
			g.s.Free(uint32(r.Intn(40)))
			g.s.Keep(uint32(r.Intn(40)))
			return true
		})
		if err != api.OK && err != api.ErrCorrupt {
			t.Fatalf("All = %d", err)
		}
	}
	// Each node leads on, as soon as it is told, to what was told ahead of it.
	g := laid(t, some, map[uint32]api.Node{1: inner(40, "", "", 2)})
	n := 0
	if err := walk.All(g.s, 1, func(i uint32, node api.Node, _ api.Span) bool {
		n++
		g.s.Save(i+1, inner(node.Level-1, "", "", i+2))
		g.s.Save(i, inner(node.Level, "", "", i))
		return node.Level > 1 || n != 40
	}); err != api.OK || n != 40 {
		t.Errorf("All = %d, told %d", err, n)
	}
}

// Two shelves have nothing in common; the same calls do the same.
func TestTwoShelves(t *testing.T) {
	r := rand.New(rand.NewSource(29))
	nodes := chanced(r, some, 15)
	one, two, other := laid(t, some, nodes), laid(t, some, nodes), laid(t, some, chanced(r, some, 15))
	for range 500 {
		root := uint32(r.Intn(17))
		one.held(root, false)
		other.held(root, false)
		two.held(root, false)
		if one.d.Stats() != two.d.Stats() {
			t.Fatalf("the same calls cost %v and %v", one.d.Stats(), two.d.Stats())
		}
	}
}

// A root that is kept is not read.
func TestKeptRoot(t *testing.T) {
	g := laid(t, some, three())
	for _, call := range []func(){
		func() { walk.All(g.s, 9, nil) }, func() { walk.Look(g.s, 9) }, func() { walk.Blocks(g.s, 9) }, func() { tell(g.s, 9, -1) },
	} {
		g.anew()
		g.s.Keep(9)
		ahead := g.d.Stats()
		call()
		g.cost(ahead, 6, true, "a walk of a kept root")
	}
}
