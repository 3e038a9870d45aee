package code_test

import (
	"bytes"
	"fmt"
	"math"
	"math/rand"
	"slices"
	"strconv"
	"strings"
	"testing"

	"sluicegate/api"
	"sluicegate/code"
	"sluicegate/conf"
	"sluicegate/lex"
	"sluicegate/node"
)

// Settings such that a node has as little room as may be, that of the chapter's example, some by odd numbers (a leaf needs most bytes, and some are left), as many parts as may be, and the longest keys and values.
var (
	few  = api.Config{Blocks: 5, Bytes: 134, Frames: 8, Fan: 8, Buffer: 16, Leaf: 16, Key: 1, Val: 0}
	some = api.Config{Blocks: 100, Bytes: 173, Frames: 8, Fan: 8, Buffer: 16, Leaf: 16, Key: 2, Val: 1}
	odd  = api.Config{Blocks: 4321, Bytes: 345, Frames: 9, Fan: 11, Buffer: 23, Leaf: 37, Key: 3, Val: 3}
	many = api.Config{Blocks: 65536, Bytes: 65536, Frames: 64, Fan: 64, Buffer: 512, Leaf: 1024, Key: 30, Val: 30}
	long = api.Config{Blocks: 65536, Bytes: 5679, Frames: 8, Fan: 8, Buffer: 16, Leaf: 16, Key: 64, Val: 256}
)

// settings are all of these.
func settings() []api.Config { return []api.Config{few, some, odd, many, long} }

func TestSettingsOfTheseTests(t *testing.T) {
	for _, c := range settings() {
		if conf.Check(c) != api.OK {
			t.Errorf("%+v are not right", c)
		}
	}
	for _, c := range []api.Config{few, some, long} {
		if conf.Least(c).Bytes != c.Bytes {
			t.Errorf("%+v have bytes to spare", c)
		}
	}
}

// row are bytes as a text has them: numbers, of which n*k is k times n, and 'a the letter a.
func row(text string) []byte {
	var b []byte
	for _, word := range strings.Fields(text) {
		if letters, ok := strings.CutPrefix(word, "'"); ok {
			b = append(b, letters...)
			continue
		}
		digits, times, many := strings.Cut(word, "*")
		n, k := number(digits), 1
		if many {
			k = number(times)
		}
		for range k {
			b = append(b, byte(n))
		}
	}
	return b
}

// number is the number that a text of these tests has.
func number(digits string) int {
	n, err := strconv.Atoi(digits)
	if err != nil {
		panic(err)
	}
	return n
}

// filled are bytes, and bytes 0 up to those of the settings.
func filled(c api.Config, b []byte) []byte {
	return append(slices.Clone(b), make([]byte, c.Bytes-len(b))...)
}

// msgs are messages as a text has them: of a=1 the key a has the value 1, of a= the empty one, of a! none.
func msgs(text string) []api.Msg {
	var l []api.Msg
	for _, word := range strings.Fields(text) {
		if key, del := strings.CutSuffix(word, "!"); del {
			l = append(l, api.Msg{Key: key, Del: true})
			continue
		}
		key, val, _ := strings.Cut(word, "=")
		l = append(l, api.Msg{Key: key, Val: val})
	}
	return l
}

// leafOf is a leaf of pairs as a text has them: of a=1 the key a has the value 1.
func leafOf(text string) api.Node {
	var n api.Node
	for _, m := range msgs(text) {
		n.Pairs = append(n.Pairs, api.Pair{Key: m.Key, Val: m.Val})
	}
	return n
}

// inner is a node of a level, of kids, with the pivots of a text between them, and the messages of another one.
func inner(level int, kids []uint32, pivots, text string) api.Node {
	return api.Node{Level: level, Kids: kids, Pivots: strings.Fields(pivots), Buf: msgs(text)}
}

// of are kids.
func of(kids ...uint32) []uint32 { return kids }

// told is a node as a text, short enough to read.
func told(n api.Node) string {
	return fmt.Sprintf("(Level %d, %d Kids %v, %d Pivots %.300q, %d in Buf %.600q, %d Pairs %.600q)", n.Level,
		len(n.Kids), n.Kids[:min(len(n.Kids), 12)], len(n.Pivots), fmt.Sprint(n.Pivots),
		len(n.Buf), fmt.Sprint(n.Buf), len(n.Pairs), fmt.Sprint(n.Pairs))
}

// alike tells whether nodes are alike; nil and empty lists are.
func alike(a, b api.Node) bool {
	return a.Level == b.Level && slices.Equal(a.Kids, b.Kids) && slices.Equal(a.Pivots, b.Pivots) &&
		slices.Equal(a.Buf, b.Buf) && slices.Equal(a.Pairs, b.Pairs)
}

// ink is a block in which each part is laid at its place, from the front on.
type ink struct {
	b  []byte
	at int
}

// lay lays bytes in so much room.
func (i *ink) lay(room int, b ...byte) {
	copy(i.b[i.at:i.at+room], b)
	i.at += room
}

// block is the block of a node that is right, as the document's words have it.
func block(c api.Config, n api.Node) []byte {
	i := &ink{b: make([]byte, c.Bytes)}
	kind, parts := byte(2), len(n.Kids)
	if n.Level == 0 {
		kind, parts = 1, len(n.Pairs)
	}
	i.lay(8, kind, byte(n.Level), byte(parts/256), byte(parts%256), byte(len(n.Buf)/256), byte(len(n.Buf)%256))
	for _, p := range n.Pairs {
		i.lay(3, byte(len(p.Key)), byte(len(p.Val)/256), byte(len(p.Val)%256))
		i.lay(c.Key, []byte(p.Key)...)
		i.lay(c.Val, []byte(p.Val)...)
	}
	if n.Level == 0 {
		return i.b
	}
	for _, kid := range n.Kids {
		i.lay(4, byte(kid>>24), byte(kid>>16), byte(kid>>8), byte(kid))
	}
	i.at = 8 + 4*c.Fan
	for _, pivot := range n.Pivots {
		i.lay(1, byte(len(pivot)))
		i.lay(c.Key, []byte(pivot)...)
	}
	i.at = 8 + 4*c.Fan + (1+c.Key)*(c.Fan-1)
	for _, m := range n.Buf {
		put := byte(1)
		if m.Del {
			put = 2
		}
		i.lay(4, put, byte(len(m.Key)), byte(len(m.Val)/256), byte(len(m.Val)%256))
		i.lay(c.Key, []byte(m.Key)...)
		i.lay(c.Val, []byte(m.Val)...)
	}
	return i.b
}

// text is what stands in a slot at a place of a block, of that length, cut where the slot, or the block, ends.
func text(b []byte, at, room, n int) string {
	at = min(at, len(b))
	return string(b[at:min(at+min(n, room), len(b))])
}

// two is the number that two bytes of a block at a place come to; 0 behind its end.
func two(b []byte, at int) int {
	if at+1 >= len(b) {
		return 0
	}
	return int(b[at])*256 + int(b[at+1])
}

// guess is what stands at the places of a node's parts, whether or not anything is right.
func guess(c api.Config, b []byte) api.Node {
	n := api.Node{Level: two(b, 0) % 256}
	parts, messages := min(two(b, 2), len(b)), min(two(b, 4), len(b))
	if n.Level == 0 {
		for i := range parts {
			at := 8 + i*(3+c.Key+c.Val)
			n.Pairs = append(n.Pairs, api.Pair{Key: text(b, at+3, c.Key, two(b, at-1)%256), Val: text(b, at+3+c.Key, c.Val, two(b, at+1))})
		}
		return n
	}
	for i := range min(parts, c.Fan) {
		at := 8 + i*4
		n.Kids = append(n.Kids, uint32(two(b, at))<<16+uint32(two(b, at+2)))
		if i > 0 {
			at = 8 + 4*c.Fan + (i-1)*(1+c.Key)
			n.Pivots = append(n.Pivots, text(b, at+1, c.Key, two(b, at-1)%256))
		}
	}
	for i := range messages {
		at := 8 + 4*c.Fan + (1+c.Key)*(c.Fan-1) + i*(4+c.Key+c.Val)
		n.Buf = append(n.Buf, api.Msg{Key: text(b, at+4, c.Key, two(b, at)%256), Del: two(b, at-1)%256 == 2, Val: text(b, at+4+c.Key, c.Val, two(b, at+2))})
	}
	return n
}

// has is the node whose block these bytes are, and whether they are one's: what stands there is right, and has just these bytes as its block.
func has(c api.Config, b []byte) (api.Node, bool) {
	n := guess(c, b)
	if len(b) != c.Bytes || !node.Right(c, lex.All(), n) || !bytes.Equal(block(c, n), b) {
		return api.Node{}, false
	}
	return n, true
}

// read holds Decode against what the document says of it (P16.2), and what is read against what is written for it (P16.4); it is whether there is a node.
func read(t *testing.T, c api.Config, b []byte) bool {
	t.Helper()
	must, ok := has(c, b)
	no := api.OK
	if !ok {
		no = api.ErrCorrupt
	}
	n, err := code.Decode(c, b)
	if err != no || !alike(n, must) {
		t.Fatalf("Decode of %d bytes %.900v = %s, %d, not %s, %d", len(b), b, told(n), err, told(must), no)
	}
	if !ok {
		return false
	}
	if again, err := code.Encode(c, n); err != api.OK || !bytes.Equal(again, b) {
		t.Fatalf("Encode(%s) = %.900v, %d, not the bytes that were read, %.900v", told(n), again, err, b)
	}
	return true
}

// written holds Encode of a node that is right against what the document says of it (P16.1), and what is read of that against the node (P16.3); it is the block.
func written(t *testing.T, c api.Config, n api.Node) []byte {
	t.Helper()
	if !node.Right(c, lex.All(), n) {
		t.Fatalf("%s is not right for %+v", told(n), c)
	}
	b, err := code.Encode(c, n)
	if must := block(c, n); err != api.OK || !bytes.Equal(b, must) {
		t.Fatalf("%+v: Encode(%s) = %d bytes %.900v, %d, not %d bytes %.900v", c, told(n), len(b), b, err, len(must), must)
	}
	if back, err := code.Decode(c, b); err != api.OK || !alike(back, n) {
		t.Fatalf("%+v: %s is read as %s, %d", c, told(n), told(back), err)
	}
	return b
}

func TestExample(t *testing.T) {
	b, err := code.Encode(some, leafOf("a=7"))
	must := append([]byte{1, 0, 0, 1, 0, 0, 0, 0, 1, 0, 1, 97, 0, 55}, make([]byte, 173-14)...)
	if err != api.OK || !bytes.Equal(b, must) {
		t.Error(b, err)
	}
	if n, err := code.Decode(some, must); err != api.OK || !alike(n, leafOf("a=7")) {
		t.Error(told(n), err)
	}
}

// shown are nodes, and their blocks without the bytes 0 at the end, by hand.
func shown() []struct {
	c api.Config
	n api.Node
	b string
} {
	return []struct {
		c api.Config
		n api.Node
		b string
	}{
		// Leaves.
		{some, leafOf(""), "1 0 0 0 0 0 0 0"},
		{few, leafOf(""), "1 0 0 0 0 0 0 0"},
		{some, leafOf("a=7"), "1 0 0 1 0 0 0 0  1 0 1 97 0 55"},
		{some, leafOf("a="), "1 0 0 1 0 0 0 0  1 0 0 97 0 0"},
		{some, leafOf("ab=7"), "1 0 0 1 0 0 0 0  2 0 1 97 98 55"},
		{some, leafOf("ab="), "1 0 0 1 0 0 0 0  2 0 0 97 98 0"},
		{some, leafOf("a=1 ab= b=2"), "1 0 0 3 0 0 0 0  1 0 1 'a 0 '1  2 0 0 'ab 0  1 0 1 'b 0 '2"},
		{few, leafOf("a= b="), "1 0 0 2 0 0 0 0  1 0 0 'a  1 0 0 'b"},
		{odd, leafOf("a=123 bcd=4 ef=56"), "1 0 0 3 0 0 0 0  1 0 3 'a 0 0 '123  3 0 1 'bcd '4 0 0  2 0 2 'ef 0 '56 0"},
		{some, api.Node{Pairs: []api.Pair{{Key: "\x00"}, {Key: "\x00\x00", Val: "\x00"}, {Key: "\xff\x00", Val: "\xff"}}}, "1 0 0 3 0 0 0 0  1 0 0 0 0 0  2 0 1 0 0 0  2 0 1 255 0 255"},
		{long, leafOf("k=" + strings.Repeat("v", 255)), "1 0 0 1 0 0 0 0  1 0 255 'k 0*63 118*255 0"},
		{long, leafOf(strings.Repeat("k", 64) + "=" + strings.Repeat("v", 256)), "1 0 0 1 0 0 0 0  64 1 0 107*64 118*256"},
		{long, leafOf(strings.Repeat("j", 63) + "= k=2"), "1 0 0 2 0 0 0 0  63 0 0 106*63 0 0*256  1 0 1 'k 0*63 '2"},
		// Others: eight kids of four bytes, seven pivots, then the messages.
		{some, inner(1, of(4), "", ""), "2 1 0 1 0 0 0 0  0 0 0 4"},
		{some, inner(40, of(99), "", ""), "2 40 0 1 0 0 0 0  0 0 0 99"},
		{some, inner(1, of(4), "", "a=7"), "2 1 0 1 0 1 0 0  0 0 0 4 0*28  0*21  1 1 0 1 'a 0 '7"},
		{some, inner(1, of(4), "", "a="), "2 1 0 1 0 1 0 0  0 0 0 4 0*28  0*21  1 1 0 0 'a 0 0"},
		{some, inner(1, of(4), "", "ab!"), "2 1 0 1 0 1 0 0  0 0 0 4 0*28  0*21  2 2 0 0 'ab 0"},
		{some, inner(2, of(4, 7), "b", ""), "2 2 0 2 0 0 0 0  0 0 0 4 0 0 0 7 0*24  1 'b"},
		{some, inner(2, of(4, 7), "b", "a=1 b=2 c!"), "2 2 0 2 0 3 0 0  0 0 0 4 0 0 0 7 0*24  1 'b 0 0*18  1 1 0 1 'a 0 '1  1 1 0 1 'b 0 '2  2 1 0 0 'c"},
		{some, inner(3, of(9, 8, 7), "b bc", "bb= bc=1"), "2 3 0 3 0 2 0 0  0 0 0 9 0 0 0 8 0 0 0 7 0*20  1 'b 0 2 'bc 0*15  1 2 0 0 'bb 0  1 2 0 1 'bc '1"},
		{some, inner(1, of(8, 7, 6, 5, 4, 3, 2, 1), "b c d e f g h", "h!"), "2 1 0 8 0 1 0 0  0 0 0 8 0 0 0 7 0 0 0 6 0 0 0 5 0 0 0 4 0 0 0 3 0 0 0 2 0 0 0 1  1 'b 0 1 'c 0 1 'd 0 1 'e 0 1 'f 0 1 'g 0 1 'h 0  2 1 0 0 'h"},
		{few, inner(1, of(1, 2, 3, 4), "b c d", "a! b= c="), "2 1 0 4 0 3 0 0  0 0 0 1 0 0 0 2 0 0 0 3 0 0 0 4 0*16  1 'b 1 'c 1 'd 0*8  2 1 0 0 'a  1 1 0 0 'b  1 1 0 0 'c"},
		{many, inner(5, of(65535, 256, 255), "b c", ""), "2 5 0 3 0 0 0 0  0 0 255 255 0 0 1 0 0 0 0 255 0*244  1 'b 0*29 1 'c"},
		{long, inner(1, of(1), "", "k="+strings.Repeat("v", 256)), "2 1 0 1 0 1 0 0  0 0 0 1 0*28  0*455  1 1 1 0 'k 0*63 118*256"},
		{long, inner(1, of(1, 2), strings.Repeat("k", 64), strings.Repeat("k", 64)+"! l="+strings.Repeat("v", 255)), "2 1 0 2 0 2 0 0  0 0 0 1 0 0 0 2 0*24  64 107*64 0*390  2 64 0 0 107*64 0*256  1 1 0 255 'l 0*63 118*255 0"},
	}
}

func TestBlocks(t *testing.T) {
	for _, x := range shown() {
		must := filled(x.c, row(x.b))
		if b := written(t, x.c, x.n); !bytes.Equal(b, must) {
			t.Errorf("Encode(%s) = %v, not %v", told(x.n), b, must)
		}
		if !read(t, x.c, must) {
			t.Errorf("%s has no node", x.b)
		}
		// More bytes of a block are all 0.
		for _, more := range []int{1, 7, 59000} {
			c := x.c
			c.Bytes = min(c.Bytes+more, api.MaxBytes)
			if b := written(t, c, x.n); !bytes.Equal(b, filled(c, must)) {
				t.Errorf("Encode(%s) of %d bytes = %v", told(x.n), c.Bytes, b)
			}
		}
	}
}

// key is the i-th of 65536 keys by rising ones, of two bytes, three, or that length; where that is below three, all have it, and there are but 256.
func key(i, length int) string {
	if length < 3 {
		return string([]byte{byte(i), 0}[:length])
	}
	return string([]byte{byte(i >> 8), byte(i)}) + strings.Repeat("k", (length-2)*(i%2)) + string([]byte{byte(i)})[:(i/2)%2*(1-i%2)]
}

// val is a value of that length.
func val(i, length int) string {
	return strings.Repeat(string([]byte{byte(i)}), length)
}

// fullLeaf is a leaf of so many pairs, with keys and values of all lengths.
func fullLeaf(c api.Config, count int) api.Node {
	var n api.Node
	for i := range count {
		n.Pairs = append(n.Pairs, api.Pair{Key: key(i, c.Key), Val: val(i, (i+count)%(c.Val+1))})
	}
	return n
}

// full is a node of a level, of so many kids and messages, with pivots, keys and values of all lengths.
func full(c api.Config, level, kids, messages int) api.Node {
	n := api.Node{Level: level}
	for i := range kids {
		n.Kids = append(n.Kids, uint32(c.Blocks-1-i))
		if i > 0 {
			n.Pivots = append(n.Pivots, key(i*3, c.Key))
		}
	}
	for i := range messages {
		m := api.Msg{Key: key(i, c.Key), Val: val(i, (i+messages)%(c.Val+1))}
		if i%5 == 1 {
			m = api.Msg{Key: key(i, c.Key), Del: true}
		}
		n.Buf = append(n.Buf, m)
	}
	return n
}

// counts are the numbers from the least to the most one, some left out where there are many.
func counts(least, most int) []int {
	var l []int
	for i := least; i <= most; i++ {
		if i < least+40 || i > most-3 || i%97 == 0 || i >= 255 && i <= 257 {
			l = append(l, i)
		}
	}
	return l
}

// mostKids is how many kids a node may have.
func mostKids(c api.Config) int { return min(c.Fan, c.Blocks-1) }

func TestAllCounts(t *testing.T) {
	for _, c := range settings() {
		for _, n := range counts(0, c.Leaf) {
			written(t, c, fullLeaf(c, n))
		}
		for _, n := range counts(0, c.Buffer) {
			written(t, c, full(c, 1, 1, n))
			written(t, c, full(c, 2, mostKids(c), n))
		}
		for _, n := range counts(1, mostKids(c)) {
			written(t, c, full(c, 1, n, 0))
			written(t, c, full(c, 40, n, c.Buffer))
		}
		for level := 1; level <= api.MaxLevel; level++ {
			written(t, c, full(c, level, 2, 3))
		}
	}
}

// Each length of a key, a pivot and a value has a slot of the same length.
func TestAllLengths(t *testing.T) {
	for _, c := range settings() {
		for length := 1; length <= c.Key; length++ {
			k := strings.Repeat("k", length)
			written(t, c, api.Node{Pairs: []api.Pair{{Key: k}, {Key: "l"}}})
			written(t, c, api.Node{Level: 1, Kids: of(1, 2, 3), Pivots: []string{k, "l"}, Buf: []api.Msg{{Key: k, Del: true}, {Key: "l"}}})
		}
		for length := 0; length <= c.Val; length++ {
			v := strings.Repeat("v", length)
			written(t, c, api.Node{Pairs: []api.Pair{{Key: "k", Val: v}, {Key: "l", Val: v}}})
			written(t, c, api.Node{Level: 1, Kids: of(1), Buf: []api.Msg{{Key: "k", Val: v}, {Key: "l", Val: v}}})
		}
	}
}

// Each block of the greatest device, and each byte of a key and a value.
func TestAllKidsAndBytes(t *testing.T) {
	for kid := uint32(1); kid < 65536; kid++ {
		if kid > 700 && kid < 65000 && kid%61 != 0 {
			continue
		}
		c := long
		written(t, c, inner(1, of(kid), "", ""))
		c.Blocks = int(kid)
		if kid >= 5 {
			wrong(t, c, inner(1, of(kid), "", ""))
		}
	}
	for i := range 256 {
		k := string([]byte{byte(i)})
		written(t, odd, api.Node{Pairs: []api.Pair{{Key: k, Val: k + "\x00" + k}}})
		written(t, odd, api.Node{Level: 1, Kids: of(1, 2), Pivots: []string{k + "\x00" + k}, Buf: []api.Msg{{Key: k, Val: k}, {Key: k + k + k, Del: true}}})
	}
}

// wrong holds that a node has no block, as it is not right.
func wrong(t *testing.T, c api.Config, n api.Node) {
	t.Helper()
	if node.Right(c, lex.All(), n) {
		t.Fatalf("%s is right for %+v", told(n), c)
	}
	if b, err := code.Encode(c, n); len(b) != 0 || err != api.ErrForm {
		t.Fatalf("%+v: Encode(%s) = %v, %d", c, told(n), b, err)
	}
}

func TestWrongNodes(t *testing.T) {
	for _, n := range []api.Node{
		// Levels that there aren't, and what belongs to other ones.
		{Level: -1}, {Level: 1}, {Level: 40}, {Level: 41}, {Level: 256}, {Level: math.MaxInt}, {Level: math.MinInt},
		inner(0, of(1), "", ""), inner(0, of(1, 2), "b", "a=1"), inner(-1, of(1), "", ""), inner(41, of(1), "", ""), inner(255, of(1), "", ""), inner(256, of(1), "", ""), inner(257, of(1), "", ""), inner(math.MinInt, of(1), "", ""),
		{Kids: of(1)}, {Pivots: []string{"b"}}, {Buf: msgs("a=1")}, {Buf: msgs("a!"), Pairs: leafOf("a=1").Pairs},
		{Level: 1, Pairs: leafOf("a=1").Pairs}, {Level: 1, Kids: of(1), Pairs: leafOf("a=1").Pairs}, {Level: 256, Pairs: leafOf("a=1").Pairs},
		// Pairs.
		{Pairs: []api.Pair{{}}}, {Pairs: []api.Pair{{Val: "1"}}}, leafOf("abc=1"), leafOf("a=12"), leafOf("a=1 a=1"), leafOf("a=1 a=2"), leafOf("b=1 a=1"), leafOf("ab= a="), fullLeaf(some, 17), fullLeaf(some, 65),
		// Kids and pivots.
		inner(1, of(0), "", ""), inner(1, of(100), "", ""), inner(1, of(65536+4), "", ""), inner(1, of(math.MaxUint32), "", ""), inner(1, of(4, 4), "b", ""), inner(1, of(4, 5, 4), "b c", ""), inner(1, of(4), "b", ""), inner(1, of(4, 5), "", ""), inner(1, of(4, 5), "b c", ""),
		inner(1, of(4, 5, 6), "b b", ""), inner(1, of(4, 5, 6), "c b", ""), inner(1, of(4, 5), "abc", ""), {Level: 1, Kids: of(4, 5), Pivots: []string{""}}, full(some, 1, 9, 0), full(some, 1, 65, 0), inner(1, nil, "", "a=1"),
		// Messages.
		inner(1, of(4), "", "abc=1"), inner(1, of(4), "", "a=12"), inner(1, of(4), "", "a=1 a=1"), inner(1, of(4), "", "a! a!"), inner(1, of(4), "", "b=1 a!"), inner(1, of(4), "", "abc!"), full(some, 1, 1, 17), full(some, 1, 1, 65),
		{Level: 1, Kids: of(4), Buf: []api.Msg{{}}}, {Level: 1, Kids: of(4), Buf: []api.Msg{{Del: true}}}, {Level: 1, Kids: of(4), Buf: []api.Msg{{Key: "a", Del: true, Val: "1"}}},
	} {
		wrong(t, some, n)
	}
	for _, c := range settings() {
		wrong(t, c, fullLeaf(c, c.Leaf+1))
		wrong(t, c, full(c, 1, 1, c.Buffer+1))
		wrong(t, c, full(c, 1, min(c.Fan+1, c.Blocks), 0))
		wrong(t, c, inner(1, of(uint32(c.Blocks)), "", ""))
		wrong(t, c, leafOf(strings.Repeat("k", c.Key+1)+"="))
		wrong(t, c, leafOf(strings.Repeat("k", c.Key+256)+"="))
		wrong(t, c, leafOf("k="+strings.Repeat("v", c.Val+1)))
		wrong(t, c, leafOf("k="+strings.Repeat("v", 65536)))
		wrong(t, c, inner(1, of(1, 2), strings.Repeat("k", c.Key+1), ""))
		wrong(t, c, inner(1, of(1), "", strings.Repeat("k", c.Key+1)+"!"))
		wrong(t, c, inner(1, of(1), "", "k="+strings.Repeat("v", c.Val+1)))
	}
}

// Right for other settings alone.
func TestNodesOfOtherSettings(t *testing.T) {
	for _, c := range settings() {
		for _, other := range settings() {
			for _, n := range []api.Node{fullLeaf(other, 0), fullLeaf(other, 5), fullLeaf(other, other.Leaf), full(other, 1, 1, 0), full(other, 1, mostKids(other), other.Buffer)} {
				if node.Right(c, lex.All(), n) {
					written(t, c, n)
				} else {
					wrong(t, c, n)
				}
				read(t, c, block(other, n))
			}
		}
	}
}

// unfit are settings that are not right, near to those that are.
func unfit(c api.Config) []api.Config {
	all := []api.Config{{}}
	for _, change := range []func(c *api.Config, v int){
		func(c *api.Config, v int) { c.Blocks = v }, func(c *api.Config, v int) { c.Bytes = v }, func(c *api.Config, v int) { c.Frames = v }, func(c *api.Config, v int) { c.Fan = v },
		func(c *api.Config, v int) { c.Buffer = v }, func(c *api.Config, v int) { c.Leaf = v }, func(c *api.Config, v int) { c.Key = v }, func(c *api.Config, v int) { c.Val = v },
	} {
		for _, v := range []int{math.MinInt, -1, 0, 4, 7, 15, 63, 65, 133, 172, 257, 513, 1025, 65537, math.MaxInt} {
			other := c
			change(&other, v)
			if conf.Check(other) != api.OK {
				all = append(all, other)
			}
		}
	}
	return all
}

// The settings are asked first, whatever the node, or the bytes.
func TestWrongSettings(t *testing.T) {
	for _, c := range unfit(some) {
		for _, n := range []api.Node{{}, leafOf("a=1"), inner(1, of(1, 2), "b", "a=1 c!"), {Level: -1}, inner(1, of(0), "", ""), leafOf("=1")} {
			if b, err := code.Encode(c, n); len(b) != 0 || err != api.ErrArg {
				t.Errorf("%+v: Encode(%s) = %v, %d", c, told(n), b, err)
			}
		}
		for _, b := range [][]byte{nil, {1}, make([]byte, 173), make([]byte, max(0, min(c.Bytes, 70000))), block(some, leafOf("a=1")), block(some, inner(1, of(1, 2), "b", "a=1 c!")), filled(api.Config{Bytes: 70000}, row("1"))} {
			if n, err := code.Decode(c, b); !alike(n, api.Node{}) || err != api.ErrArg {
				t.Errorf("%+v: Decode of %d bytes = %s, %d", c, len(b), told(n), err)
			}
		}
	}
	if n := len(unfit(some)); n < 60 {
		t.Errorf("there are but %d settings that are not right", n)
	}
}

func TestWrongBlocks(t *testing.T) {
	for _, text := range []string{
		// No such kind, or of another Level.
		"", "0 0 0 1", "0 1 0 1 0 0 0 0  0 0 0 4", "3 0", "3 1 0 1 0 0 0 0  0 0 0 4", "255", "129 0", "130 1 0 1 0 0 0 0  0 0 0 4",
		"1 1", "1 1 0 1 0 0 0 0  1 0 1 'a 0 '7", "1 1 0 1 0 0 0 0  0 0 0 4", "1 40", "1 128", "1 255",
		"2 0", "2 0 0 1 0 0 0 0  1 0 1 'a 0 '7", "2 0 0 1 0 0 0 0  0 0 0 4", "2 41 0 1 0 0 0 0  0 0 0 4", "2 128 0 1 0 0 0 0  0 0 0 4", "2 129 0 1 0 0 0 0  0 0 0 4", "2 255 0 1 0 0 0 0  0 0 0 4",
		// Other counts than there are parts, or may be.
		"1 0 0 1", "1 0 0 2 0 0 0 0  1 0 1 'a 0 '7", "1 0 0 0 0 0 0 0  1 0 1 'a 0 '7", "1 0 1 1 0 0 0 0  1 0 1 'a 0 '7", "1 0 0 17", "1 0 255 255", "1 0 128 0",
		"1 0 0 0 0 1", "1 0 0 1 0 1 0 0  1 0 1 'a 0 '7", "1 0 0 0 1 0", "1 0 0 0 255 255", "1 0 0 0 0 1 0 0 0*32 0*21 1 1 0 0 'a",
		"2 1", "2 1 0 0 0 0 0 0  0 0 0 4", "2 1 0 2 0 0 0 0  0 0 0 4", "2 1 0 1 0 0 0 0  0 0 0 4 0 0 0 7", "2 1 0 1 0 0 0 0", "2 1 0 0 0 1 0 0  0*32 0*21  1 1 0 0 'a",
		"2 1 0 9 0 0 0 0  0 0 0 1 0 0 0 2 0 0 0 3 0 0 0 4 0 0 0 5 0 0 0 6 0 0 0 7 0 0 0 8  1 'b 0 1 'c 0 1 'd 0 1 'e 0 1 'f 0 1 'g 0 1 'h 0", "2 1 255 255 0 0 0 0  0 0 0 1", "2 1 1 1 0 0 0 0  0 0 0 1",
		"2 1 0 1 0 1 0 0  0 0 0 4", "2 1 0 1 0 0 0 0  0 0 0 4 0*28 0*21  1 1 0 0 'a", "2 1 0 1 1 1 0 0  0 0 0 4 0*28 0*21  1 1 0 0 'a", "2 1 0 1 0 17 0 0  0 0 0 4", "2 1 0 1 255 255 0 0  0 0 0 4",
		// The two bytes 0.
		"1 0 0 0 0 0 1 0", "1 0 0 0 0 0 0 1", "1 0 0 1 0 0 0 255  1 0 1 'a 0 '7", "2 1 0 1 0 0 1 0  0 0 0 4", "2 1 0 1 0 0 0 1  0 0 0 4",
		// Pairs.
		"1 0 0 1 0 0 0 0  0 0 0 0 0 0", "1 0 0 1 0 0 0 0  0 0 1 0 0 '7", "1 0 0 1 0 0 0 0  0 0 1 'a 0 '7", "1 0 0 1 0 0 0 0  1 0 1 'ab '7", "1 0 0 1 0 0 0 0  3 0 1 'ab '7", "1 0 0 1 0 0 0 0  255 0 1 'ab '7", "1 0 0 1 0 0 0 0  1 0 0 'a 0 '7", "1 0 0 1 0 0 0 0  1 0 2 'a 0 '7", "1 0 0 1 0 0 0 0  1 1 0 'a 0 '7", "1 0 0 1 0 0 0 0  1 1 1 'a 0 '7", "1 0 0 1 0 0 0 0  1 255 255 'a 0 '7",
		"1 0 0 2 0 0 0 0  1 0 1 'a 0 '7  1 0 1 'a 0 '7", "1 0 0 2 0 0 0 0  1 0 1 'b 0 '7  1 0 1 'a 0 '7", "1 0 0 2 0 0 0 0  2 0 1 'ab '7  1 0 1 'a 0 '7",
		// Kids.
		"2 1 0 1 0 0 0 0  0 0 0 100", "2 1 0 1 0 0 0 0  0 0 1 4", "2 1 0 1 0 0 0 0  0 1 0 4", "2 1 0 1 0 0 0 0  1 0 0 4", "2 1 0 1 0 0 0 0  255 255 255 255", "2 1 0 1 0 0 0 0  4 0 0 0", "2 1 0 2 0 0 0 0  0 0 0 4 0 0 0 4 0*24  1 'b", "2 1 0 2 0 0 0 0  0 0 0 4 0 0 0 0 0*24  1 'b", "2 1 0 1 0 0 0 0  0 0 0 4 0*27 1",
		// Pivots.
		"2 1 0 2 0 0 0 0  0 0 0 4 0 0 0 7 0*24", "2 1 0 2 0 0 0 0  0 0 0 4 0 0 0 7 0*24  0 'b", "2 1 0 2 0 0 0 0  0 0 0 4 0 0 0 7 0*24  1 'bc", "2 1 0 2 0 0 0 0  0 0 0 4 0 0 0 7 0*24  3 'bc", "2 1 0 2 0 0 0 0  0 0 0 4 0 0 0 7 0*24  255 'bc", "2 1 0 1 0 0 0 0  0 0 0 4 0*28  1 'b", "2 1 0 1 0 0 0 0  0 0 0 4 0*28  0 'b", "2 1 0 1 0 0 0 0  0 0 0 4 0*28  1", "2 1 0 1 0 0 0 0  0 0 0 4 0*28  0*20 1",
		"2 1 0 3 0 0 0 0  0 0 0 4 0 0 0 7 0 0 0 9 0*20  1 'b 0 1 'b", "2 1 0 3 0 0 0 0  0 0 0 4 0 0 0 7 0 0 0 9 0*20  1 'c 0 1 'b", "2 1 0 2 0 0 0 0  0 0 0 4 0 0 0 7 0*24  1 'b 0  1 'c", "2 1 0 3 0 0 0 0  0 0 0 4 0 0 0 7 0 0 0 9 0*20  1 'b 0 0*3 1 'c",
		// Messages.
		"2 1 0 1 0 1 0 0  0 0 0 4 0*28 0*21  0 1 0 1 'a 0 '7", "2 1 0 1 0 1 0 0  0 0 0 4 0*28 0*21  3 1 0 1 'a 0 '7", "2 1 0 1 0 1 0 0  0 0 0 4 0*28 0*21  0 1 0 0 'a", "2 1 0 1 0 1 0 0  0 0 0 4 0*28 0*21  3 1 0 0 'a", "2 1 0 1 0 1 0 0  0 0 0 4 0*28 0*21  255 1 0 0 'a", "2 1 0 1 0 1 0 0  0 0 0 4 0*28 0*21  130 1 0 0 'a",
		"2 1 0 1 0 1 0 0  0 0 0 4 0*28 0*21  2 1 0 1 'a 0 '7", "2 1 0 1 0 1 0 0  0 0 0 4 0*28 0*21  2 1 0 1 'a 0 0", "2 1 0 1 0 1 0 0  0 0 0 4 0*28 0*21  2 1 0 0 'a 0 '7", "2 1 0 1 0 1 0 0  0 0 0 4 0*28 0*21  1 1 0 0 'a 0 '7", "2 1 0 1 0 1 0 0  0 0 0 4 0*28 0*21  1 1 0 2 'a 0 '7", "2 1 0 1 0 1 0 0  0 0 0 4 0*28 0*21  1 1 1 1 'a 0 '7", "2 1 0 1 0 1 0 0  0 0 0 4 0*28 0*21  1 1 255 255 'a 0 '7",
		"2 1 0 1 0 1 0 0  0 0 0 4 0*28 0*21  1 0 0 0", "2 1 0 1 0 1 0 0  0 0 0 4 0*28 0*21  2 0 0 0", "2 1 0 1 0 1 0 0  0 0 0 4 0*28 0*21  1 0 0 0 'a", "2 1 0 1 0 1 0 0  0 0 0 4 0*28 0*21  1 1 0 0 'ab", "2 1 0 1 0 1 0 0  0 0 0 4 0*28 0*21  1 3 0 0 'ab", "2 1 0 1 0 1 0 0  0 0 0 4 0*28 0*21  1 255 0 0 'ab",
		"2 1 0 1 0 2 0 0  0 0 0 4 0*28 0*21  1 1 0 0 'a 0 0  1 1 0 0 'a 0 0", "2 1 0 1 0 2 0 0  0 0 0 4 0*28 0*21  1 1 0 0 'a 0 0  2 1 0 0 'a 0 0", "2 1 0 1 0 2 0 0  0 0 0 4 0*28 0*21  1 1 0 0 'b 0 0  1 1 0 0 'a 0 0",
		// Bytes behind the last part.
		"1 0 0 0 0 0 0 0  0*164 1", "1 0 0 0 0 0 0 0  1", "1 0 0 1 0 0 0 0  1 0 1 'a 0 '7 1", "2 1 0 1 0 0 0 0  0 0 0 4 0*28 0*21  0*111 1", "2 1 0 1 0 1 0 0  0 0 0 4 0*28 0*21  1 1 0 1 'a 0 '7 0*104 255",
	} {
		for _, more := range []int{0, 1, 1000} {
			c := some
			c.Bytes += more
			if b := filled(c, row(text)); read(t, c, b) {
				t.Errorf("%s has a node", text)
			}
		}
	}
}

func TestLengths(t *testing.T) {
	for _, x := range shown() {
		b := filled(x.c, row(x.b))
		for n := range b {
			if n < 200 || n > len(b)-5 {
				if read(t, x.c, b[:n]) {
					t.Errorf("%s: the first %d bytes have a node", x.b, n)
				}
			}
		}
		for _, more := range []int{1, 2, 8, 65536} {
			if read(t, x.c, append(slices.Clone(b), make([]byte, more)...)) {
				t.Errorf("%s: with %d bytes more it has a node", x.b, more)
			}
		}
		if read(t, x.c, append([]byte{0}, b...)) || read(t, x.c, b[1:]) || read(t, x.c, append(slices.Clone(b[1:]), 0)) || read(t, x.c, append([]byte{0}, b[:len(b)-1]...)) {
			t.Errorf("%s: moved by one byte it has a node", x.b)
		}
	}
	for _, b := range [][]byte{nil, {}, {1}, make([]byte, 172), make([]byte, 173), make([]byte, 174)} {
		if read(t, some, b) {
			t.Errorf("%d bytes 0 have a node", len(b))
		}
	}
}

// turned is a block with each byte in turn changed to each other one, or to some.
func turned(b []byte, to []byte, do func(b []byte)) {
	mine := slices.Clone(b)
	for at, was := range b {
		for _, x := range to {
			if x != was {
				mine[at] = x
				do(mine)
			}
		}
		mine[at] = was
	}
}

// near are the bytes that stand for most: the least and the greatest ones, numbers near to lengths and counts, and letters near to those of keys.
func near() []byte { return []byte{0, 1, 2, 3, 7, 8, 16, 17, 64, 'a', 'b', 'c', 'd', 254, 255} }

// every are all bytes.
func every() []byte {
	var l []byte
	for i := range 256 {
		l = append(l, byte(i))
	}
	return l
}

func TestEachByteTurned(t *testing.T) {
	nodes := 0
	for _, x := range shown() {
		if x.c.Bytes > 400 {
			continue
		}
		turned(filled(x.c, row(x.b)), every(), func(b []byte) {
			if read(t, x.c, b) {
				nodes++
			}
		})
	}
	// Most other bytes of a key, a value, a Level or a kid are those of another node.
	if nodes < 5000 {
		t.Errorf("but %d blocks have a node", nodes)
	}
	for _, c := range []api.Config{few, some, odd} {
		for _, n := range []api.Node{fullLeaf(c, c.Leaf), full(c, 3, mostKids(c), c.Buffer), full(c, 1, 3, 5)} {
			turned(block(c, n), near(), func(b []byte) { read(t, c, b) })
		}
	}
}

func TestTwoBytesTurned(t *testing.T) {
	to := []byte{0, 1, 2, 3, 'a', 'b', 255}
	for _, n := range []api.Node{{}, leafOf("a=1 b="), inner(1, of(4, 7), "b", "a=1 b!"), inner(2, of(1), "", "")} {
		turned(block(few, withoutVals(n)), to, func(b []byte) {
			turned(b[:60], to, func(front []byte) {
				read(t, few, append(slices.Clone(front), b[60:]...))
			})
		})
	}
}

// withoutVals is a node whose values are all empty, of blocks from 1 to 4.
func withoutVals(n api.Node) api.Node {
	n = node.Clone(n)
	for i := range n.Pairs {
		n.Pairs[i].Val = ""
	}
	for i := range n.Buf {
		n.Buf[i].Val = ""
	}
	for i := range n.Kids {
		n.Kids[i] = uint32(i + 1)
	}
	return n
}

// Some bytes turned of great blocks, at their beginning, their end, and by chance in between.
func TestGreatBlocksTurned(t *testing.T) {
	r := rand.New(rand.NewSource(16))
	for _, c := range []api.Config{many, long} {
		for _, n := range []api.Node{{}, fullLeaf(c, c.Leaf), full(c, 40, c.Fan, c.Buffer), full(c, 1, 2, 3)} {
			b := block(c, n)
			for i := range 150 {
				mine := slices.Clone(b)
				at := r.Intn(len(b))
				if i < 12 {
					at = []int{0, 1, 2, 3, 4, 5, 6, 7, 8, 11, len(b) - 2, len(b) - 1}[i]
				}
				mine[at] += byte(1 + r.Intn(255))
				read(t, c, mine)
			}
		}
	}
}

// Bytes by chance, with a front of a block's, so that some have a node.
func TestScatteredBytes(t *testing.T) {
	r := rand.New(rand.NewSource(61))
	nodes := 0
	for range 30000 {
		b := make([]byte, few.Bytes)
		front := []string{"1 0 0 1 0 0 0 0", "1 0 0 2 0 0 0 0", "2 1 0 1 0 0 0 0", "2 1 0 1 0 1 0 0", "2 3 0 2 0 0 0 0", "1 0", "2 1", "1", "2", ""}[r.Intn(10)]
		at := copy(b, row(front))
		for range r.Intn(5) {
			b[min(at+r.Intn(1+r.Intn(130)), len(b)-1)] = []byte{0, 1, 1, 2, 3, byte(r.Intn(256))}[r.Intn(6)]
		}
		if read(t, few, b) {
			nodes++
		}
	}
	if nodes < 100 {
		t.Errorf("but %d of these bytes have a node", nodes)
	}
}

// keys are some keys by chance that rise, of letters that are few, or any.
func keys(r *rand.Rand, most, count int) []string {
	all := map[string]bool{}
	for range count {
		b := make([]byte, 1+r.Intn(most))
		for i := range b {
			b[i] = []byte{0, 'a', 'b', 255, byte(r.Intn(256)), byte(r.Intn(256))}[r.Intn(6)]
		}
		all[string(b)] = true
	}
	var l []string
	for k := range all {
		l = append(l, k)
	}
	slices.Sort(l)
	return l
}

// chanced is a node by chance that is right.
func chanced(r *rand.Rand, c api.Config) api.Node {
	value := func() string { return val(r.Intn(256), r.Intn(c.Val+1)) }
	var n api.Node
	if r.Intn(2) == 0 {
		for _, k := range keys(r, c.Key, r.Intn(c.Leaf+1)) {
			n.Pairs = append(n.Pairs, api.Pair{Key: k, Val: value()})
		}
		return n
	}
	n.Level = 1 + r.Intn(api.MaxLevel)
	n.Pivots = keys(r, c.Key, r.Intn(mostKids(c)))
	for _, kid := range r.Perm(c.Blocks - 1)[:len(n.Pivots)+1] {
		n.Kids = append(n.Kids, uint32(kid+1))
	}
	for _, k := range keys(r, c.Key, r.Intn(c.Buffer+1)) {
		m := api.Msg{Key: k, Val: value()}
		if r.Intn(3) == 0 {
			m = api.Msg{Key: k, Del: true}
		}
		n.Buf = append(n.Buf, m)
	}
	return n
}

func TestThereAndBack(t *testing.T) {
	r := rand.New(rand.NewSource(47))
	for _, c := range settings() {
		for range 3_000_000 / (c.Bytes + c.Blocks) {
			written(t, c, chanced(r, c))
		}
	}
}

// Settings by chance: all sizes of slots, and of what stands in them.
func TestThereAndBackOfSettings(t *testing.T) {
	r := rand.New(rand.NewSource(74))
	for range 2000 {
		c := api.Config{Blocks: 5 + r.Intn(1000), Frames: 8 + r.Intn(57), Fan: 8 + r.Intn(20), Key: 1 + r.Intn(10), Val: r.Intn(20)}
		if r.Intn(9) == 0 {
			c.Key, c.Val = 1+r.Intn(64), r.Intn(257)
		}
		c.Buffer = 2*c.Fan + r.Intn(20)
		c.Leaf = c.Buffer + r.Intn(40)
		c = conf.Least(c)
		c.Bytes += r.Intn(3) * r.Intn(50)
		if conf.Check(c) != api.OK {
			continue
		}
		for range 4 {
			written(t, c, chanced(r, c))
		}
		written(t, c, fullLeaf(c, c.Leaf))
		written(t, c, full(c, 1+r.Intn(40), mostKids(c), c.Buffer))
	}
}

// sets are all lists of some keys in order, each with that key or without it.
func sets(of ...string) [][]string {
	all := [][]string{nil}
	for _, key := range of {
		for _, l := range all {
			all = append(all, append(slices.Clone(l), key))
		}
	}
	return all
}

// stores are all lists of those keys with each value of a few, or none (a message that is Del).
func stores(keys []string, vals ...string) [][]api.Msg {
	all := [][]api.Msg{nil}
	for _, k := range keys {
		var longer [][]api.Msg
		for _, l := range all {
			for _, v := range vals {
				longer = append(longer, append(slices.Clone(l), api.Msg{Key: k, Val: v}))
			}
			longer = append(longer, append(slices.Clone(l), api.Msg{Key: k, Del: true}))
		}
		all = longer
	}
	return all
}

// smallNodes are all nodes of a few keys, values, kids and Levels.
func smallNodes() []api.Node {
	var all []api.Node
	for _, keys := range sets("\x00", "\x00\x00", "a", "a\x00", "b") {
		for _, l := range stores(keys, "", "\x00", "1") {
			n, dels := api.Node{}, 0
			for _, m := range l {
				n.Pairs = append(n.Pairs, api.Pair{Key: m.Key, Val: m.Val})
				if m.Del {
					dels++
				}
			}
			if dels == 0 {
				all = append(all, n)
			}
			if len(l) > 2 {
				continue
			}
			for _, pivots := range sets("\x00", "a", "a\x00") {
				for _, level := range []int{1, 2, 40} {
					for _, from := range []uint32{1, 5} {
						kids := of(from, from+1, 30, from+2)[:len(pivots)+1]
						all = append(all, api.Node{Level: level, Kids: kids, Pivots: pivots, Buf: l})
					}
				}
			}
		}
	}
	return all
}

func TestUnlikeNodesHaveUnlikeBlocks(t *testing.T) {
	met := map[string]api.Node{}
	for _, n := range smallNodes() {
		b := string(written(t, some, n))
		if other, ok := met[b]; ok {
			t.Fatalf("%s and %s have one block", told(n), told(other))
		}
		met[b] = n
	}
	if len(met) < 5000 {
		t.Errorf("there are but %d nodes", len(met))
	}
}

// Nil and empty lists are alike.
func TestEmptyLists(t *testing.T) {
	empty := api.Node{Kids: of(), Pivots: []string{}, Buf: []api.Msg{}, Pairs: []api.Pair{}}
	written(t, some, empty)
	n := inner(1, of(4), "", "")
	n.Pivots, n.Buf, n.Pairs = []string{}, []api.Msg{}, []api.Pair{}
	written(t, some, n)
	n.Pivots, n.Buf, n.Pairs = nil, nil, nil
	written(t, some, n)
}

// roomy is a list in the midst of memory that has more, and that whole memory.
func roomy[T any](l []T, spare T) (part, all []T) {
	all = append([]T{spare}, l...)
	all = append(all, spare, spare, spare)
	return all[1 : 1+len(l)], all
}

// housed is a node whose lists stand in the midst of more memory, and a text of all of that.
func housed(n api.Node) (api.Node, func() string) {
	kids, allKids := roomy(n.Kids, 66)
	pivots, allPivots := roomy(n.Pivots, "spare")
	buf, allBuf := roomy(n.Buf, api.Msg{Key: "spare"})
	pairs, allPairs := roomy(n.Pairs, api.Pair{Key: "spare"})
	text := func() string { return fmt.Sprintf("%v %q %#v %#v", allKids, allPivots, allBuf, allPairs) }
	return api.Node{Level: n.Level, Kids: kids, Pivots: pivots, Buf: buf, Pairs: pairs}, text
}

// fill changes all that a list's asker may change, its spare room included.
func fill[T any](l []T, x T) {
	l = l[:cap(l)]
	for i := range l {
		l[i] = x
	}
}

// spoil changes all that a node's asker may change.
func spoil(n api.Node) {
	fill(n.Kids, 77)
	fill(n.Pivots, "spoilt")
	fill(n.Buf, api.Msg{Key: "spoilt", Del: true, Val: "s"})
	fill(n.Pairs, api.Pair{Key: "spoilt", Val: "s"})
}

// Nothing that is handed in changes in a call, nor when what was told is changed; nor does what was told change with what was handed in.
func TestMemoryOfEncode(t *testing.T) {
	for _, x := range []api.Node{{}, leafOf("a=1 b= c=3"), inner(1, of(9, 2, 5), "b d", "a=1 b! c= e=5"), fullLeaf(some, 16), full(some, 7, 8, 16), fullLeaf(some, 17), full(some, 1, 9, 17), inner(1, of(0), "b c", "b=1 a=1")} {
		mine, all := housed(x)
		was := all()
		first, err := code.Encode(some, mine)
		if all() != was {
			t.Fatalf("%s: what was handed in is %s, not %s", told(x), all(), was)
		}
		kept := slices.Clone(first)
		second, _ := code.Encode(some, mine)
		fill(second, 77)
		if third, no := code.Encode(some, mine); no != err || !bytes.Equal(third, kept) || !bytes.Equal(first, kept) || all() != was {
			t.Fatalf("%s: otherwise, when it is asked once more", told(x))
		}
		spoil(mine)
		if !bytes.Equal(first, kept) {
			t.Fatalf("%s: what was told changed with what was handed in", told(x))
		}
	}
}

func TestMemoryOfDecode(t *testing.T) {
	for _, x := range []api.Node{{}, leafOf("a=1 b= c=3"), inner(1, of(9, 2, 5), "b d", "a=1 b! c= e=5"), fullLeaf(some, 16), full(some, 7, 8, 16)} {
		for _, b := range [][]byte{block(some, x), block(some, x)[:170], append([]byte{3}, block(some, x)[1:]...)} {
			mine, all := roomy(b, 66)
			was := slices.Clone(all)
			first, err := code.Decode(some, mine)
			if !bytes.Equal(all, was) {
				t.Fatalf("what was handed in is %v, not %v", all, was)
			}
			kept := node.Clone(first)
			second, _ := code.Decode(some, mine)
			spoil(second)
			if third, no := code.Decode(some, mine); no != err || !alike(third, kept) || !alike(first, kept) || !bytes.Equal(all, was) {
				t.Fatalf("%v: otherwise, when it is asked once more", b)
			}
			fill(mine, 77)
			if !alike(first, kept) {
				t.Fatalf("%v: what was told changed with what was handed in", b)
			}
		}
	}
}

// What one call tells hangs on nothing that was asked ahead of it.
func TestFromArgumentsAlone(t *testing.T) {
	great, small := full(many, 3, 64, 512), inner(1, of(1, 2), "b", "c!")
	for range 3 {
		written(t, many, great)
		wrong(t, few, great)
		written(t, few, small)
		written(t, long, small)
		read(t, few, block(few, small)[1:])
		read(t, some, make([]byte, 173))
		written(t, some, small)
	}
}
