package seek_test

import (
	"bytes"
	"fmt"
	"maps"
	"math"
	"math/rand"
	"slices"
	"strings"
	"testing"

	"sluicegate/api"
	"sluicegate/conf"
	"sluicegate/dev"
	"sluicegate/lex"
	"sluicegate/node"
	"sluicegate/seek"
	"sluicegate/shelf"
)

// Settings whose device has as few blocks as may be, some, those of odd numbers, the most parts of a node, and the longest keys and values.
var (
	few  = api.Config{Blocks: 5, Bytes: 134, Frames: 8, Fan: 8, Buffer: 16, Leaf: 16, Key: 1, Val: 0}
	some = api.Config{Blocks: 100, Bytes: 180, Frames: 8, Fan: 8, Buffer: 16, Leaf: 16, Key: 2, Val: 1}
	odd  = api.Config{Blocks: 321, Bytes: 345, Frames: 13, Fan: 11, Buffer: 23, Leaf: 37, Key: 3, Val: 3}
	many = api.Config{Blocks: 65536, Bytes: 65536, Frames: 64, Fan: 64, Buffer: 512, Leaf: 1024, Key: 30, Val: 30}
	long = api.Config{Blocks: 200, Bytes: 5679, Frames: 9, Fan: 8, Buffer: 16, Leaf: 16, Key: 64, Val: 256}
)

// settings are all of these.
func settings() []api.Config { return []api.Config{few, some, odd, many, long} }

func TestSettingsOfTheseTests(t *testing.T) {
	for _, c := range settings() {
		if conf.Check(c) != api.OK {
			t.Errorf("%+v are not right", c)
		}
	}
}

// msgs are messages as a text has them: of a=1 the key a has the value 1, of a= the empty one, of a! none.
func msgs(text string) []api.Msg {
	var l []api.Msg
	for _, word := range strings.Fields(text) {
		if key, del := strings.CutSuffix(word, "!"); del {
			l = append(l, api.Msg{Key: key, Del: true})
			continue
		}
		key, val, _ := strings.Cut(word, "=")
		l = append(l, api.Msg{Key: key, Val: val})
	}
	return l
}

// leaf is a leaf of pairs as a text has them: of a=1 the key a has the value 1.
func leaf(text string) api.Node {
	var n api.Node
	for _, m := range msgs(text) {
		n.Pairs = append(n.Pairs, api.Pair{Key: m.Key, Val: m.Val})
	}
	return n
}

// inner is a node of a level, of messages and pivots as texts have them, and of kids.
func inner(level int, text, pivots string, kids ...uint32) api.Node {
	return api.Node{Level: level, Kids: kids, Pivots: strings.Fields(pivots), Buf: msgs(text)}
}

// alike tells whether nodes are alike; nil and empty lists are.
func alike(a, b api.Node) bool {
	return a.Level == b.Level && slices.Equal(a.Kids, b.Kids) && slices.Equal(a.Pivots, b.Pivots) &&
		slices.Equal(a.Buf, b.Buf) && slices.Equal(a.Pairs, b.Pairs)
}

// told are nodes as a text, short enough to read.
func told(l []api.Node) string {
	var b strings.Builder
	for _, n := range l {
		fmt.Fprintf(&b, "(Level %d, %d Kids %v, Pivots %.100q, Buf %.200q, Pairs %.200q)", n.Level,
			len(n.Kids), n.Kids[:min(len(n.Kids), 8)], fmt.Sprint(n.Pivots), fmt.Sprint(n.Buf), fmt.Sprint(n.Pairs))
	}
	return fmt.Sprintf("%.1000s", b.String())
}

// grove is nodes in blocks, on a shelf and beside it.
type grove struct {
	t     *testing.T
	c     api.Config
	nodes map[uint32]api.Node
	d     *dev.Device
	s     *shelf.Shelf
}

// laid is a grove of nodes, all of them written to a device of its own, on which a new shelf stands.
func laid(t *testing.T, c api.Config, nodes map[uint32]api.Node) *grove {
	t.Helper()
	d, err := dev.New(c.Blocks, c.Bytes)
	if err != api.OK {
		t.Fatalf("a device for %+v: %d", c, err)
	}
	g := &grove{t: t, c: c, nodes: nodes, d: d}
	g.anew()
	for _, i := range slices.Sorted(maps.Keys(nodes)) {
		if err := g.s.Save(i, nodes[i]); err != api.OK {
			t.Fatalf("Save(%d, %s) = %d", i, told([]api.Node{nodes[i]}), err)
		}
	}
	if err := g.s.Flush(); err != api.OK {
		t.Fatalf("Flush = %d", err)
	}
	g.anew()
	return g
}

// anew has a new shelf stand on the device, which has no block in any frame.
func (g *grove) anew() {
	g.t.Helper()
	s, err := shelf.New(g.c, g.d)
	if err != api.OK {
		g.t.Fatalf("a shelf of %+v: %d", g.c, err)
	}
	g.s = s
}

// kid is the number of the kid to which a key belongs.
func kid(n api.Node, key string) int {
	at := 0
	for _, pivot := range n.Pivots {
		if pivot <= key {
			at++
		}
	}
	return at
}

// says is what a node's messages say of a key.
func says(n api.Node, key string) (api.Msg, bool) {
	for _, m := range n.Buf {
		if m.Key == key {
			return m, true
		}
	}
	return api.Msg{}, false
}

// way is a key's way as the words have it, as far as it goes, and what is wrong with the block behind that, if anything is.
func (g *grove) way(root uint32, key string) (nodes []api.Node, blocks []uint32, err api.Errno) {
	if root == 0 || uint64(root) >= uint64(g.c.Blocks) {
		return nil, nil, api.ErrRange
	}
	for i := root; ; {
		n, ok := g.nodes[i]
		if !ok || len(nodes) > 0 && n.Level != nodes[len(nodes)-1].Level-1 {
			return nodes, blocks, api.ErrCorrupt
		}
		nodes, blocks = append(nodes, n), append(blocks, i)
		if n.Level == 0 {
			return nodes, blocks, api.OK
		}
		i = n.Kids[kid(n, key)]
	}
}

// value is what Get must answer, and how many nodes of the way it may load.
func (g *grove) value(root uint32, key string) (val string, ok bool, err api.Errno, loads int) {
	nodes, _, err := g.way(root, key)
	for at, n := range nodes {
		if m, ok := says(n, key); ok {
			return m.Val, !m.Del, api.OK, at + 1
		}
	}
	if err != api.OK {
		return "", false, err, loaded(nodes, err)
	}
	for _, p := range nodes[len(nodes)-1].Pairs {
		if p.Key == key {
			return p.Val, true, api.OK, len(nodes)
		}
	}
	return "", false, api.OK, len(nodes)
}

// loaded is how many nodes are loaded to find that those are a way up to an error.
func loaded(nodes []api.Node, err api.Errno) int {
	if err == api.ErrCorrupt {
		return len(nodes) + 1
	}
	return len(nodes)
}

// span is what Span must answer of a way: the keys from the last pivot that is not behind the key to the first one that is.
func span(nodes []api.Node, key string) api.Span {
	s := api.Span{Top: true}
	for _, n := range nodes {
		for _, pivot := range n.Pivots {
			switch {
			case pivot <= key:
				s.Lo = max(s.Lo, pivot)
			case s.Top || pivot < s.Hi:
				s.Hi, s.Top = pivot, false
			}
		}
	}
	return s
}

// cost holds what a call cost against how many nodes it may load, and, if no block was in a frame ahead of it, against how many it must.
func (g *grove) cost(ahead api.Stats, loads int, fresh bool, what string) {
	g.t.Helper()
	now := g.d.Stats()
	reads, writes := now.Reads-ahead.Reads, now.Writes-ahead.Writes
	if reads > uint64(loads) || writes > uint64(loads) {
		g.t.Fatalf("%s read %d and wrote %d, loading %d nodes", what, reads, writes, loads)
	}
	if fresh && (reads != uint64(loads) || writes != 0) {
		g.t.Fatalf("%s, with no block in a frame, read %d and wrote %d, not %d and 0", what, reads, writes, loads)
	}
}

// held holds the three calls for a key against the words. If fresh, a new shelf stands ahead of each of them, and no way comes back to its own blocks.
func (g *grove) held(root uint32, key string, fresh bool) {
	g.t.Helper()
	g.heldWay(root, key, fresh)
	g.heldGet(root, key, fresh)
	g.heldSpan(root, key, fresh)
}

// begin is how the device stands ahead of a call.
func (g *grove) begin(fresh bool) api.Stats {
	g.t.Helper()
	if fresh {
		g.anew()
	}
	return g.d.Stats()
}

func (g *grove) heldWay(root uint32, key string, fresh bool) {
	g.t.Helper()
	want, wantAt, wantErr := g.way(root, key)
	loads, what := loaded(want, wantErr), fmt.Sprintf("Way(%d, %.80q)", root, key)
	if wantErr != api.OK {
		want, wantAt = nil, nil
	}
	ahead := g.begin(fresh)
	nodes, blocks, err := seek.Way(g.s, root, key)
	if err != wantErr || !slices.EqualFunc(nodes, want, alike) || !slices.Equal(blocks, wantAt) {
		g.t.Fatalf("%s = %s, %v, %d, not %s, %v, %d", what, told(nodes), blocks, err, told(want), wantAt, wantErr)
	}
	g.cost(ahead, loads, fresh, what)
}

func (g *grove) heldGet(root uint32, key string, fresh bool) {
	g.t.Helper()
	want, wantOk, wantErr, loads := g.value(root, key)
	what := fmt.Sprintf("Get(%d, %.80q)", root, key)
	ahead := g.begin(fresh)
	if val, ok, err := seek.Get(g.s, root, key); val != want || ok != wantOk || err != wantErr {
		g.t.Fatalf("%s = %q, %t, %d, not %q, %t, %d", what, val, ok, err, want, wantOk, wantErr)
	}
	g.cost(ahead, loads, fresh, what)
}

func (g *grove) heldSpan(root uint32, key string, fresh bool) {
	g.t.Helper()
	nodes, _, wantErr := g.way(root, key)
	loads, what := loaded(nodes, wantErr), fmt.Sprintf("Span(%d, %.80q)", root, key)
	var want api.Span
	if wantErr == api.OK {
		want = span(nodes, key)
	}
	ahead := g.begin(fresh)
	if s, err := seek.Span(g.s, root, key); s != want || err != wantErr {
		g.t.Fatalf("%s = %+v, %d, not %+v, %d", what, s, err, want, wantErr)
	}
	g.cost(ahead, loads, fresh, what)
}

// keys are the keys that nodes have, those around them, and some that no node may have.
func (g *grove) keys() []string {
	l := []string{"", "\x00", "\xff", strings.Repeat("\xff", 300), strings.Repeat("k", api.MaxKey+1)}
	near := func(key string) {
		l = append(l, key, lex.Next(key))
		if key != "" {
			l = append(l, key[:len(key)-1])
			if b := key[len(key)-1]; b > 0 {
				l = append(l, key[:len(key)-1]+string([]byte{b - 1, 0xff}))
			}
		}
	}
	for _, n := range g.nodes {
		for _, pivot := range n.Pivots {
			near(pivot)
		}
		for _, m := range n.Buf {
			near(m.Key)
		}
		for _, p := range n.Pairs {
			near(p.Key)
		}
	}
	slices.Sort(l)
	return slices.Compact(l)
}

// three is a tree of three Levels, in blocks in no order.
func three() map[uint32]api.Node {
	return map[uint32]api.Node{
		9: inner(2, "b=1 d! h=", "f", 4, 2),
		4: inner(1, "b=2 c! d=2", "c e", 7, 1, 3),
		2: inner(1, "g! h=3", "", 8),
		7: leaf("a=4 b=4"),
		1: leaf("c=4 d=4"),
		3: leaf("e=4"),
		8: leaf("f=4 g=4 h=4"),
	}
}

func TestExample(t *testing.T) {
	g := laid(t, some, map[uint32]api.Node{1: {}})
	for _, key := range g.keys() {
		if val, ok, err := seek.Get(g.s, 1, key); val != "" || ok || err != api.OK {
			t.Errorf("Get(1, %q) of an empty leaf = %q, %t, %d", key, val, ok, err)
		}
		if s, err := seek.Span(g.s, 1, key); s != (api.Span{Top: true}) || s != lex.All() || err != api.OK {
			t.Errorf("Span(1, %q) of an empty leaf = %+v, %d", key, s, err)
		}
		nodes, blocks, err := seek.Way(g.s, 1, key)
		if len(nodes) != 1 || !alike(nodes[0], api.Node{}) || !slices.Equal(blocks, []uint32{1}) || err != api.OK {
			t.Errorf("Way(1, %q) of an empty leaf = %s, %v, %d", key, told(nodes), blocks, err)
		}
	}
}

// P19.1, P19.2 and P19.3, each answer reckoned by hand.
func TestByHand(t *testing.T) {
	g := laid(t, some, three())
	for _, x := range []struct {
		key  string
		way  []uint32
		span api.Span
		val  string
		ok   bool
	}{
		{"", []uint32{9, 4, 7}, api.Span{Hi: "c"}, "", false},
		{"a", []uint32{9, 4, 7}, api.Span{Hi: "c"}, "4", true},
		{"b", []uint32{9, 4, 7}, api.Span{Hi: "c"}, "1", true},
		{"b\x00", []uint32{9, 4, 7}, api.Span{Hi: "c"}, "", false},
		{"c", []uint32{9, 4, 1}, api.Span{Lo: "c", Hi: "e"}, "", false},
		{"c\x00", []uint32{9, 4, 1}, api.Span{Lo: "c", Hi: "e"}, "", false},
		{"d", []uint32{9, 4, 1}, api.Span{Lo: "c", Hi: "e"}, "", false},
		{"d\xff", []uint32{9, 4, 1}, api.Span{Lo: "c", Hi: "e"}, "", false},
		{"e", []uint32{9, 4, 3}, api.Span{Lo: "e", Hi: "f"}, "4", true},
		{"e\xff\xff", []uint32{9, 4, 3}, api.Span{Lo: "e", Hi: "f"}, "", false},
		{"f", []uint32{9, 2, 8}, api.Span{Lo: "f", Top: true}, "4", true},
		{"g", []uint32{9, 2, 8}, api.Span{Lo: "f", Top: true}, "", false},
		{"h", []uint32{9, 2, 8}, api.Span{Lo: "f", Top: true}, "", true},
		{"\xff", []uint32{9, 2, 8}, api.Span{Lo: "f", Top: true}, "", false},
	} {
		nodes, blocks, err := seek.Way(g.s, 9, x.key)
		if !slices.Equal(blocks, x.way) || len(nodes) != 3 || err != api.OK {
			t.Fatalf("Way(9, %q) = %s, %v, %d, not %v", x.key, told(nodes), blocks, err, x.way)
		}
		for at, n := range nodes {
			if !alike(n, three()[x.way[at]]) {
				t.Errorf("Way(9, %q): of block %d %s", x.key, x.way[at], told(nodes[at:at+1]))
			}
		}
		if s, err := seek.Span(g.s, 9, x.key); s != x.span || err != api.OK {
			t.Errorf("Span(9, %q) = %+v, %d, not %+v", x.key, s, err, x.span)
		}
		if val, ok, err := seek.Get(g.s, 9, x.key); val != x.val || ok != x.ok || err != api.OK {
			t.Errorf("Get(9, %q) = %q, %t, %d, not %q, %t", x.key, val, ok, err, x.val, x.ok)
		}
	}
}

// Each node of a tree is itself a root of what hangs below it.
func TestEachNodeAsRoot(t *testing.T) {
	g := laid(t, some, three())
	for root := range uint32(some.Blocks + 3) {
		for _, key := range g.keys() {
			g.held(root, key, true)
			g.held(root, key, false)
		}
	}
}

// small are some small nodes for settings of four blocks, unlike each other; one stands for none.
func small() []api.Node {
	return []api.Node{
		{},
		leaf("a c"),
		inner(1, "", "", 2),
		inner(1, "a", "", 4),
		inner(1, "c!", "b", 3, 1),
		inner(1, "b", "b c", 1, 4, 2),
		inner(2, "", "", 3),
		inner(2, "a!", "c", 2, 3),
		inner(2, "b c!", "a b", 3, 4, 1),
		inner(3, "b!", "b", 4, 1),
		inner(40, "c", "", 1),
		{Level: -1},
	}
}

// P19.1, P19.2 and P19.3: all rows of three of some nodes, whatever they lead to, with a leaf behind them.
func TestAllOfThreeBlocks(t *testing.T) {
	of := small()
	for x := range of {
		for y := range of {
			for z := range of {
				nodes := map[uint32]api.Node{4: leaf("b c")}
				for i, at := range []int{x, y, z} {
					if of[at].Level >= 0 {
						nodes[uint32(i+1)] = of[at]
					}
				}
				g := laid(t, few, nodes)
				for root := uint32(1); root < 5; root++ {
					for _, key := range []string{"", "a", "a\x00", "b", "bb", "c", "d"} {
						g.held(root, key, false)
					}
				}
			}
		}
	}
}

// grower grows sound trees by chance.
type grower struct {
	r     *rand.Rand
	c     api.Config
	pool  []string
	kids  int
	free  []uint32
	nodes map[uint32]api.Node
}

// growing is one for settings, of keys by chance that they allow.
func growing(r *rand.Rand, c api.Config, keys, kids int) *grower {
	g := &grower{r: r, c: c, kids: kids, nodes: map[uint32]api.Node{}}
	for range keys {
		key := make([]byte, 1+r.Intn(c.Key))
		for i := range key {
			key[i] = byte(r.Intn(256))
		}
		g.pool = append(g.pool, string(key))
	}
	slices.Sort(g.pool)
	g.pool = slices.Compact(g.pool)
	for _, i := range r.Perm(c.Blocks - 1) {
		g.free = append(g.free, uint32(i+1))
	}
	return g
}

// pick is some of the pool's keys from lo on, below hi, at most so many.
func (g *grower) pick(lo, hi, most int) []string {
	if lo >= hi {
		return nil
	}
	var l []string
	for range g.r.Intn(most + 1) {
		l = append(l, g.pool[lo+g.r.Intn(hi-lo)])
	}
	slices.Sort(l)
	return slices.Compact(l)
}

// val is a value by chance.
func (g *grower) val() string {
	return strings.Repeat(string([]byte{byte(g.r.Intn(256))}), g.r.Intn(g.c.Val+1))
}

// grow lays a node of that Level, for the pool's keys from lo on, below hi, with all that hangs below it; its block.
func (g *grower) grow(level, lo, hi int) uint32 {
	i := g.free[0]
	g.free = g.free[1:]
	n := api.Node{Level: level}
	if level == 0 {
		for _, key := range g.pick(lo, hi, g.c.Leaf) {
			n.Pairs = append(n.Pairs, api.Pair{Key: key, Val: g.val()})
		}
		g.nodes[i] = n
		return i
	}
	n.Pivots = g.pick(lo+1, hi, min(g.kids, g.c.Fan)-1)
	for _, key := range g.pick(lo, hi, g.c.Buffer) {
		m := api.Msg{Key: key, Del: g.r.Intn(3) == 0}
		if !m.Del {
			m.Val = g.val()
		}
		n.Buf = append(n.Buf, m)
	}
	from := lo
	for _, pivot := range n.Pivots {
		to, _ := slices.BinarySearch(g.pool, pivot)
		n.Kids = append(n.Kids, g.grow(level-1, from, to))
		from = to
	}
	n.Kids = append(n.Kids, g.grow(level-1, from, hi))
	g.nodes[i] = n
	return i
}

// P19.1, P19.2, P19.3 and P19.4: sound trees, keys of all kinds held against the words, at most so many of each tree.
func TestSoundTrees(t *testing.T) {
	r := rand.New(rand.NewSource(19))
	for _, x := range []struct {
		c                 api.Config
		level, kids       int
		keys, times, most int
	}{
		{few, 0, 1, 20, 20, 99}, {few, 1, 2, 20, 20, 99}, {few, 2, 1, 20, 20, 99}, {few, 3, 1, 20, 20, 99},
		{some, 1, 8, 60, 10, 150}, {some, 2, 6, 60, 10, 150}, {some, 3, 4, 60, 10, 150}, {some, 40, 1, 60, 4, 150},
		{odd, 1, 11, 90, 5, 150}, {odd, 2, 11, 90, 5, 150}, {odd, 3, 6, 90, 5, 150}, {odd, 5, 2, 90, 5, 150},
		{many, 1, 64, 700, 2, 60}, {many, 2, 9, 900, 2, 60}, {many, 7, 2, 200, 2, 60},
		{long, 2, 8, 60, 3, 150}, {long, 6, 2, 60, 3, 150},
	} {
		for range x.times {
			b := growing(r, x.c, x.keys, x.kids)
			root := b.grow(x.level, 0, len(b.pool))
			g := laid(t, x.c, b.nodes)
			keys := g.keys()
			r.Shuffle(len(keys), func(i, j int) { keys[i], keys[j] = keys[j], keys[i] })
			for _, key := range keys[:min(len(keys), x.most)] {
				g.held(root, key, false)
				if r.Intn(8) == 0 {
					g.held(root, key, true)
				}
			}
		}
	}
}

// chanced are nodes by chance in blocks from 1 on, of few Levels; some blocks have none; what hangs below them is anything.
func chanced(r *rand.Rand, c api.Config, blocks int) map[uint32]api.Node {
	levels := make([]int, blocks+1)
	for i := range levels {
		levels[i] = r.Intn(5) - 1
	}
	near := func(level int) uint32 {
		i := 1 + r.Intn(blocks)
		for range 8 {
			if levels[i] == level-1 {
				break
			}
			i = 1 + r.Intn(blocks)
		}
		return uint32(i)
	}
	letters := func(most int) []string {
		var l []string
		for _, at := range r.Perm(26)[:r.Intn(most+1)] {
			l = append(l, string([]byte{byte('a' + at)}))
		}
		slices.Sort(l)
		return l
	}
	nodes := map[uint32]api.Node{}
	for i := 1; i <= blocks; i++ {
		n := api.Node{Level: levels[i]}
		switch {
		case n.Level < 0:
			continue
		case n.Level == 0:
			n.Pairs = leaf(strings.Join(letters(16), " ")).Pairs
		default:
			for range 1 + r.Intn(5) {
				if k := near(n.Level); !slices.Contains(n.Kids, k) {
					n.Kids = append(n.Kids, k)
				}
			}
			for len(n.Pivots) != len(n.Kids)-1 {
				n.Pivots = letters(4)
			}
			for _, key := range letters(3) {
				n.Buf = append(n.Buf, api.Msg{Key: key, Del: r.Intn(2) == 0})
			}
		}
		nodes[uint32(i)] = n
	}
	return nodes
}

// P19.1, P19.2 and P19.3: nodes that are no tree, as a device may have any.
func TestUnsoundTrees(t *testing.T) {
	r := rand.New(rand.NewSource(20))
	ended := map[api.Errno]int{}
	for range 300 {
		c := []api.Config{few, some, odd}[r.Intn(3)]
		blocks := min(c.Blocks-1, 3+r.Intn(20))
		g := laid(t, c, chanced(r, c, blocks))
		for root := uint32(0); root <= uint32(blocks)+1; root++ {
			for range 8 {
				key := string([]byte{byte('a' - 1 + r.Intn(28))})
				g.held(root, key, false)
				_, _, err := g.way(root, key)
				ended[err]++
			}
		}
	}
	if ended[api.OK] < 1000 || ended[api.ErrCorrupt] < 1000 || ended[api.ErrRange] < 100 {
		t.Errorf("the ways ended as %v", ended)
	}
}

// P19.1: Levels must fall by one; a way may have 41 nodes.
func TestLevels(t *testing.T) {
	for upper := 1; upper <= api.MaxLevel; upper++ {
		for lower := range api.MaxLevel + 1 {
			nodes := map[uint32]api.Node{1: inner(upper, "", "", 2)}
			for i := range lower + 1 {
				nodes[uint32(lower+2-i)] = inner(i, "", "", uint32(lower+3-i))
			}
			nodes[uint32(lower+2)] = leaf("a=1")
			g := laid(t, some, nodes)
			g.held(1, "a", true)
			if nodes, _, err := seek.Way(g.s, 1, "a"); (err == api.OK) != (lower == upper-1) || err == api.OK && len(nodes) != upper+1 {
				t.Errorf("a node of Level %d below one of %d: %d nodes, %d", lower, upper, len(nodes), err)
			}
			if val, ok, err := seek.Get(g.s, 1, "a"); (err == api.OK) != (lower == upper-1) || ok != (err == api.OK) || (val == "1") != ok {
				t.Errorf("a node of Level %d below one of %d: Get = %q, %t, %d", lower, upper, val, ok, err)
			}
			if s, err := seek.Span(g.s, 1, "a"); (err == api.OK) != (lower == upper-1) || s.Top != (err == api.OK) {
				t.Errorf("a node of Level %d below one of %d: Span = %+v, %d", lower, upper, s, err)
			}
		}
	}
}

// A way that leads back to its own blocks ends.
func TestRings(t *testing.T) {
	for _, nodes := range []map[uint32]api.Node{
		{1: inner(1, "", "", 1)},
		{1: inner(40, "", "", 1)},
		{1: inner(2, "", "", 2), 2: inner(1, "", "", 1)},
		{1: inner(1, "", "", 2), 2: inner(1, "", "", 1)},
		{1: inner(3, "", "", 2), 2: inner(2, "", "", 3), 3: inner(1, "", "", 1)},
		{1: inner(3, "", "", 2), 2: inner(2, "", "", 3), 3: inner(1, "", "", 2)},
	} {
		g := laid(t, some, nodes)
		for root := range nodes {
			g.held(root, "a", false)
			if _, _, err := seek.Way(g.s, root, "a"); err != api.ErrCorrupt {
				t.Errorf("Way(%d) of %v = %d", root, nodes, err)
			}
		}
	}
}

// P19.2: the first message counts, and what stands below it is not asked, whatever it is.
func TestFirstMessage(t *testing.T) {
	const levels = 5
	for at := range levels {
		for _, text := range []string{"k=1", "k=", "k!"} {
			for _, rest := range []string{"none", "leaves", "messages"} {
				nodes := map[uint32]api.Node{}
				for i := range at + 1 {
					nodes[uint32(i+1)] = inner(levels-i, "a=7 z!", "", uint32(i+2))
				}
				nodes[uint32(at+1)] = inner(levels-at, "a=8 "+text+" z!", "", uint32(at+2))
				for i := at + 1; i <= levels && rest != "none"; i++ {
					nodes[uint32(i+1)] = leaf("k=9")
					if rest == "messages" && i < levels {
						nodes[uint32(i+1)] = inner(levels-i, "k=9", "", uint32(i+2))
					}
				}
				g := laid(t, some, nodes)
				g.held(1, "k", true)
				m := msgs(text)[0]
				if val, ok, err := seek.Get(g.s, 1, "k"); val != m.Val || ok == m.Del || err != api.OK {
					t.Errorf("%s in node %d, below it %s: Get = %q, %t, %d", text, at, rest, val, ok, err)
				}
			}
		}
	}
}

// P19.2: a message that stands behind the fault is not told.
func TestMessageBehindTheFault(t *testing.T) {
	for _, nodes := range []map[uint32]api.Node{
		{1: inner(3, "", "", 2), 2: inner(1, "k=1", "", 3), 3: leaf("k=2")},
		{1: inner(3, "", "", 2), 2: inner(3, "k=1", "", 3), 3: inner(2, "k=2", "", 4)},
		{1: inner(3, "", "", 2), 2: leaf("k=1")},
		{1: inner(1, "", "", 2), 2: inner(1, "k=1", "", 3), 3: leaf("k=2")},
		{1: inner(3, "", "", 2), 3: inner(1, "k=1", "", 4), 4: leaf("k=2")},
		{2: inner(1, "k=1", "", 3), 3: leaf("k=2")},
	} {
		g := laid(t, some, nodes)
		g.held(1, "k", true)
		if val, ok, err := seek.Get(g.s, 1, "k"); val != "" || ok || err != api.ErrCorrupt {
			t.Errorf("Get of %v = %q, %t, %d", nodes, val, ok, err)
		}
	}
}

// A message of another key says nothing, also of one that begins as that one does, or ends in bytes 0.
func TestOtherKeys(t *testing.T) {
	g := laid(t, odd, map[uint32]api.Node{
		1: inner(1, "\x00=1 a=1 ab=1 b! ba=1", "", 2),
		2: leaf("\x00\x00=2 a\x00=2 aa=2 abc=2 b=2 bb=2"),
	})
	for key, want := range map[string]string{
		"\x00": "1", "\x00\x00": "2", "a": "1", "a\x00": "2", "aa": "2", "ab": "1", "abc": "2", "ba": "1", "bb": "2",
		"": "-", "\x00\x00\x00": "-", "b": "-", "bab": "-", "b\x00": "-", "abca": "-", "A": "-",
	} {
		g.held(1, key, true)
		val, ok, err := seek.Get(g.s, 1, key)
		if ok != (want != "-") || ok && val != want || err != api.OK {
			t.Errorf("Get(%q) = %q, %t, %d, not %s", key, val, ok, err, want)
		}
	}
}

// wrong holds the three calls against an error.
func wrong(t *testing.T, s *shelf.Shelf, root uint32, key string, want api.Errno) {
	t.Helper()
	if nodes, blocks, err := seek.Way(s, root, key); len(nodes) != 0 || len(blocks) != 0 || err != want {
		t.Errorf("Way(%d, %q) = %s, %v, %d, not %d", root, key, told(nodes), blocks, err, want)
	}
	if val, ok, err := seek.Get(s, root, key); val != "" || ok || err != want {
		t.Errorf("Get(%d, %q) = %q, %t, %d, not %d", root, key, val, ok, err, want)
	}
	if keys, err := seek.Span(s, root, key); keys != (api.Span{}) || err != want {
		t.Errorf("Span(%d, %q) = %+v, %d, not %d", root, key, keys, err, want)
	}
}

// P19.1: Load's errors, of a root that there is not, or that has no node; such a call asks the device for nothing, or for that block alone.
func TestWrongRoots(t *testing.T) {
	for _, c := range settings() {
		g := laid(t, c, map[uint32]api.Node{1: leaf("k"), 3: inner(1, "k", "", 1)})
		n := uint32(c.Blocks)
		for _, root := range []uint32{0, n, n + 1, n + 2, n + 3, 2 * n, 65536, 65537, 65539, 1<<31 - 1, 1 << 31, 1<<31 + 1, math.MaxUint32 - 1, math.MaxUint32} {
			ahead := g.d.Stats()
			for _, key := range []string{"", "k", "kk"} {
				wrong(t, g.s, root, key, api.ErrRange)
			}
			g.cost(ahead, 0, true, fmt.Sprintf("asking for block %d", root))
		}
		for _, root := range []uint32{2, 4, n - 1} {
			for _, key := range []string{"", "k", "kk"} {
				wrong(t, g.s, root, key, api.ErrCorrupt)
				g.held(root, key, true)
			}
		}
	}
}

// A shelf that is nil, or that nobody made, has no ways.
func TestNobodyMadeIt(t *testing.T) {
	for _, s := range []*shelf.Shelf{nil, {}, new(shelf.Shelf)} {
		for _, root := range []uint32{0, 1, 2, 100, math.MaxUint32} {
			for _, key := range []string{"", "k", strings.Repeat("k", 1000)} {
				wrong(t, s, root, key, api.ErrNil)
			}
		}
	}
}

// Any bytes may stand in a block: with each byte of a tree's blocks turned, a way is still that of what can be read.
func TestAnyBytes(t *testing.T) {
	c := few
	nodes := map[uint32]api.Node{1: inner(2, "c", "b", 2, 3), 2: inner(1, "a!", "", 4), 3: leaf("b d"), 4: leaf("a")}
	image := laid(t, c, nodes).d.Image()
	for at := c.Bytes; at < len(image); at++ {
		for _, turn := range []byte{1, 2, 4, 128, 255} {
			b := slices.Clone(image)
			b[at] ^= turn
			d, _ := dev.From(c.Bytes, b)
			s, _ := shelf.New(c, d)
			g := &grove{t: t, c: c, nodes: map[uint32]api.Node{}, d: d, s: s}
			for i := uint32(1); i < uint32(c.Blocks); i++ {
				if n, err := s.Load(i); err == api.OK {
					g.nodes[i] = n
				}
			}
			for root := uint32(1); root < uint32(c.Blocks); root++ {
				for _, key := range []string{"", "a", "b", "c", "d"} {
					g.held(root, key, false)
				}
			}
		}
	}
}

// P19.4: keys of one Span have one way, and no others have; each key is in its Span, which is not empty.
func TestKeysOfOneSpan(t *testing.T) {
	r := rand.New(rand.NewSource(21))
	var groves []*grove
	var roots []uint32
	for range 6 {
		b := growing(r, odd, 40, 4)
		roots = append(roots, b.grow(2, 0, len(b.pool)))
		groves = append(groves, laid(t, odd, b.nodes))
	}
	for range 60 {
		groves = append(groves, laid(t, some, chanced(r, some, 12)))
		roots = append(roots, uint32(1+r.Intn(12)))
	}
	for at, g := range groves {
		keys, root := g.keys(), roots[at]
		ways := make(map[string][]uint32)
		for _, key := range keys {
			if _, blocks, err := seek.Way(g.s, root, key); err == api.OK {
				ways[key] = blocks
			}
		}
		for key, way := range ways {
			s, err := seek.Span(g.s, root, key)
			if err != api.OK || lex.Empty(s) || !lex.In(s, key) || s.Top && s.Hi != "" {
				t.Fatalf("Span(%d, %q) = %+v, %d", root, key, s, err)
			}
			for _, other := range keys {
				if lex.In(s, other) != slices.Equal(ways[other], way) {
					t.Fatalf("Span(%d, %q) = %+v; the way of %q is %v, that of %q %v", root, key, s, key, way, other, ways[other])
				}
			}
		}
	}
}

// P19.3: pivots far below may stand outside of what the nodes above lead there; they narrow no Span.
func TestPivotsOutside(t *testing.T) {
	g := laid(t, some, map[uint32]api.Node{
		1: inner(3, "", "d m", 2, 3, 4),
		3: inner(2, "", "b e z", 5, 6, 7, 8),
		5: inner(1, "", "", 9), 6: inner(1, "", "a", 10, 9), 7: inner(1, "", "a c g x", 11, 12, 9, 13, 14), 8: inner(1, "", "", 9),
		2: inner(2, "", "x", 8, 5), 4: inner(2, "", "a b", 5, 6, 8),
		9: leaf("q"), 10: leaf(""), 11: leaf(""), 12: leaf(""), 13: leaf("g"), 14: leaf("h"),
	})
	for _, x := range []struct {
		key  string
		way  []uint32
		want api.Span
	}{
		{"", []uint32{1, 2, 8, 9}, api.Span{Hi: "d"}},
		{"c\xff", []uint32{1, 2, 8, 9}, api.Span{Hi: "d"}},
		{"d", []uint32{1, 3, 6, 9}, api.Span{Lo: "d", Hi: "e"}},
		{"e", []uint32{1, 3, 7, 9}, api.Span{Lo: "e", Hi: "g"}},
		{"f", []uint32{1, 3, 7, 9}, api.Span{Lo: "e", Hi: "g"}},
		{"g", []uint32{1, 3, 7, 13}, api.Span{Lo: "g", Hi: "m"}},
		{"lz", []uint32{1, 3, 7, 13}, api.Span{Lo: "g", Hi: "m"}},
		{"m", []uint32{1, 4, 8, 9}, api.Span{Lo: "m", Top: true}},
		{"zz", []uint32{1, 4, 8, 9}, api.Span{Lo: "m", Top: true}},
	} {
		g.held(1, x.key, true)
		_, blocks, err := seek.Way(g.s, 1, x.key)
		if s, no := seek.Span(g.s, 1, x.key); s != x.want || !slices.Equal(blocks, x.way) || err != api.OK || no != api.OK {
			t.Errorf("%q: way %v, %d, Span %+v, %d, not %v, %+v", x.key, blocks, err, s, no, x.way, x.want)
		}
	}
}

// P19.4: of a root that is kept no block is asked of the device; a Get that finds its message there costs nothing.
func TestKeptRoot(t *testing.T) {
	r := rand.New(rand.NewSource(22))
	for _, c := range []api.Config{some, odd, long} {
		for level := range 5 {
			b := growing(r, c, 50, 2)
			root := b.grow(level, 0, len(b.pool))
			g := laid(t, c, b.nodes)
			for _, key := range g.keys() {
				nodes, _, _ := g.way(root, key)
				_, _, _, loads := g.value(root, key)
				for _, x := range []struct {
					name  string
					loads int
					call  func() api.Errno
				}{
					{"Way", len(nodes), func() api.Errno { _, _, err := seek.Way(g.s, root, key); return err }},
					{"Get", loads, func() api.Errno { _, _, err := seek.Get(g.s, root, key); return err }},
					{"Span", len(nodes), func() api.Errno { _, err := seek.Span(g.s, root, key); return err }},
				} {
					g.anew()
					if err := g.s.Keep(root); err != api.OK {
						t.Fatalf("Keep(%d) = %d", root, err)
					}
					ahead := g.d.Stats()
					if err := x.call(); err != api.OK {
						t.Fatalf("%s(%d, %q) = %d", x.name, root, key, err)
					}
					g.cost(ahead, x.loads-1, true, fmt.Sprintf("%s(%d, %q) of a kept root", x.name, root, key))
					if err := g.s.Free(root); err != api.ErrState {
						t.Fatalf("the root is not kept any more: Free = %d", err)
					}
				}
			}
		}
	}
}

// P19.4: at most two blocks are asked for each node, also where each frame has a block that the device has not yet.
func TestCostsOfDirtyFrames(t *testing.T) {
	r := rand.New(rand.NewSource(23))
	for _, c := range []api.Config{some, long} {
		b := growing(r, c, 50, 3)
		root := b.grow(3, 0, len(b.pool))
		g := laid(t, c, b.nodes)
		wrote := false
		for _, key := range g.keys() {
			for at := range c.Frames {
				if err := g.s.Save(b.free[at], leaf("")); err != api.OK {
					t.Fatalf("Save = %d", err)
				}
			}
			ahead := g.d.Stats()
			g.held(root, key, false)
			wrote = wrote || g.d.Stats().Writes > ahead.Writes
		}
		if !wrote {
			t.Error("no call wrote a block")
		}
	}
}

// A way is that of what was saved last, and asks not whether its blocks are held.
func TestAsSaved(t *testing.T) {
	r := rand.New(rand.NewSource(24))
	g := laid(t, some, chanced(r, some, 12))
	for range 2000 {
		for i, n := range chanced(r, some, 12) {
			if r.Intn(6) > 0 {
				continue
			}
			g.nodes[i] = n
			if err := g.s.Save(i, n); err != api.OK {
				t.Fatalf("Save(%d) = %d", i, err)
			}
		}
		switch i := uint32(1 + r.Intn(12)); r.Intn(6) {
		case 0:
			g.s.Mark(i)
		case 1:
			g.s.Keep(uint32(r.Intn(13)))
		case 2:
			g.s.Flush()
		}
		g.held(uint32(1+r.Intn(12)), string([]byte{byte('a' - 1 + r.Intn(28))}), false)
	}
}

// The three calls change nothing of a shelf that can be told, nor of what the device has.
func TestNothingChanges(t *testing.T) {
	r := rand.New(rand.NewSource(25))
	for range 40 {
		g := laid(t, some, chanced(r, some, 20))
		for i := range uint32(30) {
			if r.Intn(2) == 0 {
				g.s.Mark(i + 1)
			}
		}
		held, left, image := g.s.Held(), g.s.Left(), g.d.Image()
		for root := range uint32(22) {
			g.held(root, string([]byte{byte('a' - 1 + r.Intn(28))}), false)
		}
		if !slices.Equal(g.s.Held(), held) || g.s.Left() != left || g.s.Config() != some || !bytes.Equal(g.d.Image(), image) {
			t.Fatalf("Held %v, Left %d, not %v, %d; or settings, or the device's bytes", g.s.Held(), g.s.Left(), held, left)
		}
		if err := g.s.Flush(); err != api.OK || g.d.Stats().Writes != uint64(len(g.nodes)) {
			t.Fatalf("Flush = %d; %v behind all, of %d nodes saved", err, g.d.Stats(), len(g.nodes))
		}
	}
}

// scrawl changes all that nodes have, their spare room included.
func scrawl(nodes []api.Node, blocks []uint32) {
	for at := range nodes {
		n := &nodes[at]
		for _, l := range [][]uint32{n.Kids[:cap(n.Kids)], blocks[:cap(blocks)]} {
			for i := range l {
				l[i] = 77
			}
		}
		for i := range n.Pivots[:cap(n.Pivots)] {
			n.Pivots[:cap(n.Pivots)][i] = "x"
		}
		for i := range n.Buf[:cap(n.Buf)] {
			n.Buf[:cap(n.Buf)][i] = api.Msg{Key: "x", Val: "x"}
		}
		for i := range n.Pairs[:cap(n.Pairs)] {
			n.Pairs[:cap(n.Pairs)][i] = api.Pair{Key: "x", Val: "x"}
		}
		n.Level = 99
	}
}

// What is told is new memory: changing it changes no later answer, and none of the other nodes told with it.
func TestMemory(t *testing.T) {
	g := laid(t, some, three())
	if err := g.s.Keep(9); err != api.OK {
		t.Fatal(err)
	}
	for _, key := range g.keys() {
		one, oneAt, _ := seek.Way(g.s, 9, key)
		two, twoAt, _ := seek.Way(g.s, 9, key)
		scrawl(one, oneAt)
		want, wantAt, _ := g.way(9, key)
		if !slices.EqualFunc(two, want, alike) || !slices.Equal(twoAt, wantAt) {
			t.Fatalf("the way of %q told ahead is now %s, %v", key, told(two), twoAt)
		}
		for at := range two {
			scrawl(two[at:at+1], nil)
			if !slices.EqualFunc(two[at+1:], want[at+1:], alike) {
				t.Fatalf("with node %d of the way of %q changed, the others are %s", at, key, told(two[at+1:]))
			}
		}
		if !slices.Equal(twoAt, wantAt) {
			t.Fatalf("with the nodes of the way of %q changed, the blocks are %v", key, twoAt)
		}
		g.held(9, key, false)
	}
}

// Two shelves have nothing in common; the same calls do the same.
func TestTwoShelves(t *testing.T) {
	r := rand.New(rand.NewSource(26))
	nodes := chanced(r, some, 15)
	one, two, other := laid(t, some, nodes), laid(t, some, nodes), laid(t, some, chanced(r, some, 15))
	for range 500 {
		root, key := uint32(r.Intn(17)), string([]byte{byte('a' - 1 + r.Intn(28))})
		one.held(root, key, false)
		other.held(root, key, false)
		two.held(root, key, false)
		if one.d.Stats() != two.d.Stats() {
			t.Fatalf("the same calls cost %v and %v", one.d.Stats(), two.d.Stats())
		}
	}
}

// The nodes of a sound tree's way are right for the spans that lead to them, and its leaf for the key's Span.
func TestWayOfRightNodes(t *testing.T) {
	r := rand.New(rand.NewSource(27))
	for _, c := range []api.Config{some, odd, long} {
		b := growing(r, c, 50, 3)
		root := b.grow(3, 0, len(b.pool))
		g := laid(t, c, b.nodes)
		for _, key := range g.keys() {
			nodes, _, err := seek.Way(g.s, root, key)
			s, no := seek.Span(g.s, root, key)
			if err != api.OK || no != api.OK || len(nodes) != 4 {
				t.Fatalf("%q: %d nodes, %d, %d", key, len(nodes), err, no)
			}
			for at, n := range nodes {
				if n.Level != 3-at || !node.Right(c, span(nodes[:at], key), n) {
					t.Fatalf("%q: node %d is %s", key, at, told(nodes[at:at+1]))
				}
			}
			if !node.Right(c, s, nodes[3]) {
				t.Fatalf("%q: its leaf is not right for its Span %+v: %s", key, s, told(nodes[3:]))
			}
		}
	}
}
