package shelf_test

import (
	"bytes"
	"fmt"
	"math"
	"math/rand"
	"slices"
	"strings"
	"testing"

	"sluicegate/api"
	"sluicegate/code"
	"sluicegate/conf"
	"sluicegate/dev"
	"sluicegate/shelf"
)

// Settings whose device has as few blocks as may be, as many as the cache has frames and one, some more, those of odd numbers, the most parts of a node, and the longest keys and values.
var (
	few  = api.Config{Blocks: 5, Bytes: 134, Frames: 8, Fan: 8, Buffer: 16, Leaf: 16, Key: 1, Val: 0}
	nine = api.Config{Blocks: 10, Bytes: 173, Frames: 8, Fan: 8, Buffer: 16, Leaf: 16, Key: 2, Val: 1}
	some = api.Config{Blocks: 40, Bytes: 180, Frames: 8, Fan: 8, Buffer: 16, Leaf: 16, Key: 2, Val: 1}
	odd  = api.Config{Blocks: 321, Bytes: 345, Frames: 13, Fan: 11, Buffer: 23, Leaf: 37, Key: 3, Val: 3}
	many = api.Config{Blocks: 65536, Bytes: 65536, Frames: 64, Fan: 64, Buffer: 512, Leaf: 1024, Key: 30, Val: 30}
	long = api.Config{Blocks: 100, Bytes: 5679, Frames: 9, Fan: 8, Buffer: 16, Leaf: 16, Key: 64, Val: 256}
)

// settings are all of these.
func settings() []api.Config { return []api.Config{few, nine, some, odd, many, long} }

// device is a device of noughts, as settings ask for it.
func device(t *testing.T, c api.Config) *dev.Device {
	t.Helper()
	d, err := dev.New(c.Blocks, c.Bytes)
	if err != api.OK {
		t.Fatalf("a device for %+v: %d", c, err)
	}
	return d
}

// made is a shelf of a device.
func made(t *testing.T, c api.Config, d *dev.Device) *shelf.Shelf {
	t.Helper()
	s, err := shelf.New(c, d)
	if err != api.OK || s == nil {
		t.Fatalf("New(%+v) = %v, %d", c, s, err)
	}
	return s
}

// leaf is a leaf of keys without values.
func leaf(keys ...string) api.Node {
	var n api.Node
	for _, key := range keys {
		n.Pairs = append(n.Pairs, api.Pair{Key: key})
	}
	return n
}

// simple is one of 300 small nodes that are right for all settings of these tests, unlike each other.
func simple(k int) api.Node {
	k %= 300
	key := string([]byte{byte(k % 100)})
	switch k / 100 {
	case 0:
		return leaf(key)
	case 1:
		return api.Node{Level: 1 + k%40, Kids: []uint32{1 + uint32(k)%4}, Buf: []api.Msg{{Key: key}}}
	}
	return api.Node{Level: 2, Kids: []uint32{3, 1}, Pivots: []string{key}, Buf: []api.Msg{{Key: "z", Del: true}}}
}

// keys are n keys by chance, rising, that settings allow; fewer, if there are not so many.
func keys(r *rand.Rand, c api.Config, n int) []string {
	var l []string
	for range n {
		key := make([]byte, 1+r.Intn(c.Key))
		for i := range key {
			key[i] = byte(r.Intn(256))
		}
		l = append(l, string(key))
	}
	slices.Sort(l)
	return slices.Compact(l)
}

// value is a value by chance that settings allow.
func value(r *rand.Rand, c api.Config) string {
	return strings.Repeat("v", r.Intn(c.Val+1))
}

// chanced is a node by chance that is right for settings.
func chanced(r *rand.Rand, c api.Config) api.Node {
	var n api.Node
	if r.Intn(2) == 0 {
		for _, key := range keys(r, c, r.Intn(c.Leaf+1)) {
			n.Pairs = append(n.Pairs, api.Pair{Key: key, Val: value(r, c)})
		}
		return n
	}
	n.Level = 1 + r.Intn(api.MaxLevel)
	n.Pivots = keys(r, c, r.Intn(min(c.Fan, c.Blocks-1)))
	for _, kid := range r.Perm(c.Blocks - 1)[:len(n.Pivots)+1] {
		n.Kids = append(n.Kids, uint32(kid+1))
	}
	for _, key := range keys(r, c, r.Intn(c.Buffer+1)) {
		m := api.Msg{Key: key, Del: r.Intn(2) == 0}
		if !m.Del {
			m.Val = value(r, c)
		}
		n.Buf = append(n.Buf, m)
	}
	return n
}

// copied is a node of its own memory.
func copied(n api.Node) api.Node {
	return api.Node{Level: n.Level, Kids: slices.Clone(n.Kids), Pivots: slices.Clone(n.Pivots), Buf: slices.Clone(n.Buf), Pairs: slices.Clone(n.Pairs)}
}

// alike tells whether nodes are alike; nil and empty lists are.
func alike(a, b api.Node) bool {
	return a.Level == b.Level && slices.Equal(a.Kids, b.Kids) && slices.Equal(a.Pivots, b.Pivots) &&
		slices.Equal(a.Buf, b.Buf) && slices.Equal(a.Pairs, b.Pairs)
}

// told is a node as a text, short enough to read.
func told(n api.Node) string {
	return fmt.Sprintf("(Level %d, %d Kids %v, %d Pivots, %d in Buf %.200q, %d Pairs %.200q)", n.Level,
		len(n.Kids), n.Kids[:min(len(n.Kids), 8)], len(n.Pivots), len(n.Buf), fmt.Sprint(n.Buf), len(n.Pairs), fmt.Sprint(n.Pairs))
}

// absent are numbers that are none of a node's block.
func absent(c api.Config) []uint32 {
	n := uint32(c.Blocks)
	return []uint32{0, n, n + 1, n + 63, 2 * n, 65536, 65537, 1<<31 - 1, 1 << 31, 1<<31 + 1, math.MaxUint32 - 1, math.MaxUint32}
}

// place is a block that must be in a frame.
type place struct {
	block uint32
	dirty bool
}

// shadow is what a shelf must have, as the document's words have it.
type shadow struct {
	c    api.Config
	held []bool
	kept uint32
	// ever are the nodes that each block had so far, the newest one at the end; nil is none.
	ever [][]*api.Node
	// loose are the blocks that were freed, and not saved since: they may have any node that they ever had.
	loose []bool
	// row is the blocks in frames, but for the one that is kept, the one used last in front.
	row []place
	// rest is the block that is kept, and whether it is unlike the device's.
	rest  place
	stats api.Stats
}

// shade is what a new shelf of a device must have.
func shade(c api.Config, d *dev.Device) *shadow {
	w := &shadow{c: c, held: make([]bool, c.Blocks), ever: make([][]*api.Node, c.Blocks), loose: make([]bool, c.Blocks), stats: d.Stats()}
	w.held[0] = true
	for i := range c.Blocks {
		w.ever[i] = []*api.Node{nil}
	}
	if c.Blocks > 1000 {
		return w // Of these tests, just a device of noughts has so many.
	}
	for i, b := range slices.Collect(slices.Chunk(d.Image(), c.Bytes)) {
		if n, err := code.Decode(c, b); err == api.OK {
			w.ever[i] = []*api.Node{&n}
		}
	}
	return w
}

// room makes room for a block that is in no frame.
func (w *shadow) room() {
	used := len(w.row)
	if w.kept != 0 {
		used++
	}
	if used < w.c.Frames {
		return
	}
	last := len(w.row) - 1
	if w.row[last].dirty {
		w.stats.Writes++
	}
	w.row = w.row[:last]
}

// out takes a block out of the row; it is as it was there.
func (w *shadow) out(i uint32) (place, bool) {
	for at, p := range w.row {
		if p.block == i {
			w.row = slices.Delete(w.row, at, at+1)
			return p, true
		}
	}
	return place{block: i}, false
}

// seat is a block that is not kept, as it is behind its Pin.
func (w *shadow) seat(i uint32) place {
	p, ok := w.out(i)
	if !ok {
		w.room()
		w.stats.Reads++
	}
	return p
}

// put is that a block has a node.
func (w *shadow) put(i uint32, n api.Node) {
	n = copied(n)
	w.ever[i] = append(w.ever[i], &n)
	w.loose[i] = false
	if i == w.kept {
		w.rest.dirty = true
		return
	}
	if _, ok := w.out(i); !ok {
		w.room()
	}
	w.row = slices.Insert(w.row, 0, place{block: i, dirty: true})
}

// no tells whether that is no node's block.
func (w *shadow) no(i uint32) bool {
	return i == 0 || uint64(i) >= uint64(w.c.Blocks)
}

// left is how many blocks must be free, and the first of them.
func (w *shadow) left() (n int, first uint32) {
	for i := len(w.held) - 1; i >= 0; i-- {
		if !w.held[i] {
			n, first = n+1, uint32(i)
		}
	}
	return n, first
}

// dirty is the blocks that a Flush must write.
func (w *shadow) dirty() int {
	n := 0
	for _, p := range append(w.row, w.rest) {
		if p.dirty {
			n++
		}
	}
	return n
}

// both are a shelf, its device, and what they must have.
type both struct {
	t *testing.T
	d *dev.Device
	s *shelf.Shelf
	w *shadow
}

// pair is a new shelf of a new device.
func pair(t *testing.T, c api.Config) *both {
	t.Helper()
	return shelved(t, c, device(t, c))
}

// shelved is a new shelf of a device.
func shelved(t *testing.T, c api.Config, d *dev.Device) *both {
	t.Helper()
	return &both{t: t, d: d, s: made(t, c, d), w: shade(c, d)}
}

// cost is what a call cost, held against what the document allows, and against what the cache must do.
func (p *both) cost(ahead api.Stats, reads, writes uint64, what string) {
	p.t.Helper()
	now := p.d.Stats()
	if now.Reads-ahead.Reads > reads || now.Writes-ahead.Writes > writes {
		p.t.Fatalf("%s cost %v, behind %v: more than %d and %d", what, now, ahead, reads, writes)
	}
	if now != p.w.stats || p.s.Stats() != now {
		p.t.Fatalf("%s: the device tells %v, the shelf %v, not %v", what, now, p.s.Stats(), p.w.stats)
	}
}

// load loads a block.
func (p *both) load(i uint32) {
	p.t.Helper()
	what, ahead := fmt.Sprintf("Load(%d)", i), p.d.Stats()
	n, err := p.s.Load(i)
	if p.w.no(i) {
		if err != api.ErrRange || !alike(n, api.Node{}) {
			p.t.Fatalf("%s = %s, %d", what, told(n), err)
		}
		p.cost(ahead, 0, 0, what)
		return
	}
	most := uint64(1)
	if i == p.w.kept {
		most = 0
	} else {
		p.w.row = slices.Insert(p.w.row, 0, p.w.seat(i))
	}
	p.cost(ahead, most, most, what)
	may := p.w.ever[i]
	if !p.w.loose[i] {
		may = may[len(may)-1:]
	}
	fits := func(x *api.Node) bool {
		if x == nil {
			return err == api.ErrCorrupt && alike(n, api.Node{})
		}
		return err == api.OK && alike(n, *x)
	}
	if !slices.ContainsFunc(may, fits) {
		p.t.Fatalf("%s = %s, %d, none of %d nodes", what, told(n), err, len(may))
	}
}

// save gives a block a node that is right.
func (p *both) save(i uint32, n api.Node) {
	p.t.Helper()
	what, ahead, want := fmt.Sprintf("Save(%d, %s)", i, told(n)), p.d.Stats(), api.OK
	if p.w.no(i) {
		want = api.ErrRange
	}
	if err := p.s.Save(i, n); err != want {
		p.t.Fatalf("%s = %d, not %d", what, err, want)
	}
	if want != api.OK {
		p.cost(ahead, 0, 0, what)
		return
	}
	p.w.put(i, n)
	p.cost(ahead, 0, 1, what)
}

// makes gives a free block a node that is right; it is that block.
func (p *both) makes(n api.Node) uint32 {
	p.t.Helper()
	what, ahead, want := fmt.Sprintf("Make(%s)", told(n)), p.d.Stats(), api.OK
	left, first := p.w.left()
	if left == 0 {
		want = api.ErrFull
	}
	if i, err := p.s.Make(n); i != first || err != want {
		p.t.Fatalf("%s = %d, %d, not %d, %d", what, i, err, first, want)
	}
	if want != api.OK {
		p.cost(ahead, 0, 0, what)
		return 0
	}
	p.w.held[first] = true
	p.w.put(first, n)
	p.cost(ahead, 0, 1, what)
	return first
}

// free frees a block.
func (p *both) free(i uint32) {
	p.t.Helper()
	what, ahead, want := fmt.Sprintf("Free(%d)", i), p.d.Stats(), api.OK
	switch {
	case p.w.no(i):
		want = api.ErrRange
	case i == p.w.kept:
		want = api.ErrState
	case !p.w.held[i]:
		want = api.ErrNone
	}
	if err := p.s.Free(i); err != want {
		p.t.Fatalf("%s = %d, not %d", what, err, want)
	}
	if want == api.OK {
		p.w.held[i], p.w.loose[i] = false, true
		p.w.out(i)
	}
	p.cost(ahead, 0, 0, what)
}

// mark has a block be held.
func (p *both) mark(i uint32) {
	p.t.Helper()
	what, ahead, want := fmt.Sprintf("Mark(%d)", i), p.d.Stats(), api.OK
	switch {
	case p.w.no(i):
		want = api.ErrRange
	case p.w.held[i]:
		want = api.ErrTwice
	}
	if err := p.s.Mark(i); err != want {
		p.t.Fatalf("%s = %d, not %d", what, err, want)
	}
	if want == api.OK {
		p.w.held[i] = true
	}
	p.cost(ahead, 0, 0, what)
}

// keep keeps a block, or none.
func (p *both) keep(i uint32) {
	p.t.Helper()
	what, ahead, want, most := fmt.Sprintf("Keep(%d)", i), p.d.Stats(), api.OK, uint64(1)
	if i != 0 && p.w.no(i) {
		want, most = api.ErrRange, 0
	}
	if err := p.s.Keep(i); err != want {
		p.t.Fatalf("%s = %d, not %d", what, err, want)
	}
	if i == p.w.kept || i == 0 {
		most = 0
	}
	if want == api.OK && i != p.w.kept {
		var next place
		if i != 0 {
			next = p.w.seat(i)
		}
		if p.w.kept != 0 {
			p.w.row = slices.Insert(p.w.row, 0, p.w.rest)
		}
		p.w.kept, p.w.rest = i, next
	}
	p.cost(ahead, most, most, what)
}

// flush writes all.
func (p *both) flush() {
	p.t.Helper()
	ahead := p.d.Stats()
	if err := p.s.Flush(); err != api.OK {
		p.t.Fatalf("Flush = %d", err)
	}
	p.w.stats.Writes += uint64(p.w.dirty())
	for at := range p.w.row {
		p.w.row[at].dirty = false
	}
	p.w.rest.dirty = false
	p.cost(ahead, 0, uint64(p.w.c.Frames), "Flush")
}

// same holds all that a shelf tells without being asked for a node against what it must.
func (p *both) same() {
	p.t.Helper()
	ahead := p.d.Stats()
	if p.s.Config() != p.w.c {
		p.t.Fatalf("Config %+v, not %+v", p.s.Config(), p.w.c)
	}
	left, _ := p.w.left()
	if p.s.Left() != left {
		p.t.Fatalf("Left %d, not %d", p.s.Left(), left)
	}
	var held []uint32
	for i, is := range p.w.held {
		if p.s.Has(uint32(i)) != is {
			p.t.Fatalf("Has(%d) is not %t", i, is)
		}
		if is {
			held = append(held, uint32(i))
		}
	}
	for _, i := range absent(p.w.c) {
		if p.s.Has(i) != (i == 0) {
			p.t.Fatalf("Has(%d) of %d blocks is %t", i, p.w.c.Blocks, i != 0)
		}
	}
	if !slices.Equal(p.s.Held(), held) {
		p.t.Fatalf("Held %v, not %v", p.s.Held(), held)
	}
	p.cost(ahead, 0, 0, "asking for no node")
}

// loadAll loads all blocks.
func (p *both) loadAll() {
	p.t.Helper()
	for i := range p.w.c.Blocks {
		p.load(uint32(i))
	}
}

// flushed flushes, and holds the device block by block against what the shelf has, and a new shelf of a device of that image.
func (p *both) flushed() {
	p.t.Helper()
	p.flush()
	image := p.d.Image()
	d, err := dev.From(p.w.c.Bytes, image)
	if err != api.OK {
		p.t.Fatalf("From = %d", err)
	}
	again := made(p.t, p.w.c, d)
	for i := 1; i < p.w.c.Blocks; i++ {
		want := p.w.ever[i][len(p.w.ever[i])-1]
		if p.w.loose[i] || want == nil {
			continue
		}
		b, err := code.Encode(p.w.c, *want)
		if err != api.OK || !bytes.Equal(image[i*p.w.c.Bytes:(i+1)*p.w.c.Bytes], b) {
			p.t.Fatalf("behind a Flush block %d has %.200v, not %.200v of %s", i, image[i*p.w.c.Bytes:(i+1)*p.w.c.Bytes], b, told(*want))
		}
		if n, err := again.Load(uint32(i)); err != api.OK || !alike(n, *want) {
			p.t.Fatalf("Load(%d) of the image is %s, %d, not %s", i, told(n), err, told(*want))
		}
	}
	if p.d.Stats() != p.w.stats {
		p.t.Fatalf("an image costs %v, behind %v", p.d.Stats(), p.w.stats)
	}
}

func TestSettingsOfTheseTests(t *testing.T) {
	r := rand.New(rand.NewSource(3))
	for _, c := range settings() {
		if conf.Check(c) != api.OK {
			t.Errorf("%+v are not right", c)
		}
		var blocks []string
		for k := range 300 {
			b, err := code.Encode(c, simple(k))
			if err != api.OK {
				t.Errorf("simple(%d) is not right for %+v", k, c)
			}
			blocks = append(blocks, string(b))
		}
		slices.Sort(blocks)
		if len(slices.Compact(blocks)) != 300 {
			t.Error("simple nodes are alike")
		}
		for range 20 {
			n := chanced(r, c)
			if _, err := code.Encode(c, n); err != api.OK {
				t.Errorf("%s is not right for %+v", told(n), c)
			}
		}
	}
}

func TestExample(t *testing.T) {
	for _, c := range settings() {
		s := made(t, c, device(t, c))
		if i, err := s.Make(api.Node{}); i != 1 || err != api.OK {
			t.Errorf("Make = %d, %d", i, err)
		}
		if s.Left() != c.Blocks-2 {
			t.Errorf("Left %d of %d blocks", s.Left(), c.Blocks)
		}
		if n, err := s.Load(2); err != api.ErrCorrupt || !alike(n, api.Node{}) {
			t.Errorf("Load(2) = %s, %d", told(n), err)
		}
		if n, err := s.Load(1); err != api.OK || !alike(n, api.Node{}) {
			t.Errorf("Load(1) = %s, %d", told(n), err)
		}
	}
}

// wrongSettings are settings that are not right, one of whose numbers is another one.
func wrongSettings(c api.Config) []api.Config {
	var l []api.Config
	fields := func(c *api.Config) []*int {
		return []*int{&c.Blocks, &c.Bytes, &c.Frames, &c.Fan, &c.Buffer, &c.Leaf, &c.Key, &c.Val}
	}
	for at := range fields(&c) {
		for _, v := range []int{math.MinInt, -1, 0, 4, 7, 65, 1025, 65537, math.MaxInt} {
			wrong := c
			*fields(&wrong)[at] = v
			if conf.Check(wrong) != api.OK {
				l = append(l, wrong)
			}
		}
	}
	return append(l, api.Config{})
}

func TestNewRefuses(t *testing.T) {
	refused := func(c api.Config, d *dev.Device, want api.Errno, why string) {
		t.Helper()
		if s, err := shelf.New(c, d); s != nil || err != want {
			t.Errorf("%s: New(%+v) = %v, %d, not %d", why, c, s, err, want)
		}
	}
	for _, c := range settings() {
		d := device(t, c)
		wrong := wrongSettings(c)
		if len(wrong) < 40 {
			t.Errorf("there are but %d wrong settings", len(wrong))
		}
		for _, w := range wrong {
			for _, x := range []*dev.Device{nil, {}, d} {
				refused(w, x, api.ErrArg, "wrong settings")
			}
			if x, err := dev.New(w.Blocks, w.Bytes); err == api.OK {
				refused(w, x, api.ErrArg, "wrong settings, of a device's numbers")
			}
		}
		for _, x := range []*dev.Device{nil, {}, new(dev.Device)} {
			refused(c, x, api.ErrNil, "nobody's device")
		}
		for _, x := range [][2]int{{c.Blocks - 1, c.Bytes}, {c.Blocks + 1, c.Bytes}, {c.Blocks, c.Bytes - 1}, {c.Blocks, c.Bytes + 1}, {c.Bytes, c.Blocks}, {5, 1}, {c.Blocks * 2, c.Bytes / 2}, {c.Blocks / 2, c.Bytes * 2}} {
			if o, err := dev.New(x[0], x[1]); err == api.OK && (x[0] != c.Blocks || x[1] != c.Bytes) {
				refused(c, o, api.ErrForm, "another device")
				if o.Stats() != (api.Stats{}) {
					t.Errorf("a device that was refused tells %v", o.Stats())
				}
			}
		}
		if d.Stats() != (api.Stats{}) {
			t.Errorf("a device that was refused tells %v", d.Stats())
		}
	}
}

func TestNew(t *testing.T) {
	for _, c := range settings() {
		p := pair(t, c)
		p.same()
		if l := p.s.Held(); !slices.Equal(l, []uint32{0}) || p.s.Left() != c.Blocks-1 {
			t.Errorf("of a new shelf of %d blocks %v are held, %d left", c.Blocks, l, p.s.Left())
		}
	}
	// All that counts is the device's Blocks and Bytes: it may have been used ahead.
	d := device(t, some)
	b, err := code.Encode(some, simple(7))
	if err != api.OK || d.Write(3, b) != api.OK || d.Write(0, b) != api.OK {
		t.Fatal("the device takes no block")
	}
	if _, err := d.Read(5); err != api.OK {
		t.Fatal("the device tells no block")
	}
	p := shelved(t, some, d)
	p.same()
	if p.s.Stats() != (api.Stats{Reads: 1, Writes: 2}) {
		t.Errorf("Stats %v, behind a read and two writes", p.s.Stats())
	}
	p.loadAll()
	if n, err := p.s.Load(3); err != api.OK || !alike(n, simple(7)) {
		t.Errorf("Load(3) = %s, %d", told(n), err)
	}
}

func TestNobody(t *testing.T) {
	for _, s := range []*shelf.Shelf{nil, {}, new(shelf.Shelf)} {
		for _, i := range []uint32{0, 1, 2, 5, 65536, math.MaxUint32} {
			for _, n := range []api.Node{{}, leaf("a"), {Level: -1}} {
				if err := s.Save(i, n); err != api.ErrNil {
					t.Errorf("Save(%d) = %d", i, err)
				}
				if at, err := s.Make(n); at != 0 || err != api.ErrNil {
					t.Errorf("Make = %d, %d", at, err)
				}
			}
			if n, err := s.Load(i); !alike(n, api.Node{}) || err != api.ErrNil {
				t.Errorf("Load(%d) = %s, %d", i, told(n), err)
			}
			if s.Free(i) != api.ErrNil || s.Mark(i) != api.ErrNil || s.Keep(i) != api.ErrNil {
				t.Errorf("Free(%d), Mark or Keep of nobody's shelf is another error than %d", i, api.ErrNil)
			}
			if s.Has(i) {
				t.Errorf("nobody's shelf has block %d", i)
			}
		}
		if s.Flush() != api.ErrNil || s.Config() != (api.Config{}) || s.Left() != 0 || len(s.Held()) != 0 || s.Stats() != (api.Stats{}) {
			t.Error("nobody's shelf tells something")
		}
	}
}

// Blocks that there are not, and block 0, ahead of any other error; nothing has changed.
func TestRange(t *testing.T) {
	for _, c := range settings() {
		p := pair(t, c)
		for _, i := range absent(c) {
			p.refuseAll(i)
		}
		last := uint32(c.Blocks - 1)
		p.mark(last)
		p.save(last, simple(250))
		p.keep(last)
		for _, i := range absent(c) {
			p.refuseAll(i)
		}
		for range 3 * c.Frames {
			p.makes(simple(1))
		}
		for i := uint32(1); i < min(uint32(c.Blocks), 100); i++ {
			p.load(i)
		}
		ahead := p.s.Stats()
		if n, err := p.s.Load(last); err != api.OK || !alike(n, simple(250)) || p.s.Stats() != ahead {
			t.Errorf("block %d, that is kept: %s, %d, for %v behind %v", last, told(n), err, p.s.Stats(), ahead)
		}
	}
}

// refuseAll asks a shelf for a block that is no node's.
func (p *both) refuseAll(i uint32) {
	p.t.Helper()
	p.load(i)
	p.save(i, simple(0))
	p.save(i, api.Node{Level: -1})
	p.free(i)
	p.mark(i)
	if i != 0 {
		p.keep(i)
	}
	p.same()
}

// wrongNodes are nodes that are not right for settings.
func wrongNodes(c api.Config) []api.Node {
	key := strings.Repeat("k", c.Key)
	l := []api.Node{
		{Level: -1}, {Level: 1}, {Level: 41, Kids: []uint32{1}}, {Level: math.MaxInt, Kids: []uint32{1}},
		{Kids: []uint32{1}}, {Pivots: []string{"a"}}, {Buf: []api.Msg{{Key: "a"}}},
		leaf(""), leaf("b", "a"), leaf("a", "a"), leaf(key + "k"),
		{Pairs: []api.Pair{{Key: "a", Val: strings.Repeat("v", c.Val+1)}}},
		{Level: 1, Kids: []uint32{0}}, {Level: 1, Kids: []uint32{uint32(c.Blocks)}}, {Level: 1, Kids: []uint32{math.MaxUint32}},
		{Level: 1, Kids: []uint32{1, 2}}, {Level: 1, Kids: []uint32{1, 1}, Pivots: []string{"a"}}, {Level: 1, Kids: []uint32{1}, Pivots: []string{"a"}},
		{Level: 1, Kids: []uint32{1, 2}, Pivots: []string{""}}, {Level: 1, Kids: []uint32{1, 2}, Pivots: []string{key + "k"}},
		{Level: 1, Kids: []uint32{1, 2, 3}, Pivots: []string{"b", "a"}}, {Level: 1, Kids: []uint32{1, 2, 3}, Pivots: []string{"a", "a"}},
		{Level: 1, Kids: []uint32{1}, Pairs: []api.Pair{{Key: "a"}}},
		{Level: 1, Kids: []uint32{1}, Buf: []api.Msg{{}}}, {Level: 1, Kids: []uint32{1}, Buf: []api.Msg{{Key: key + "k"}}},
		{Level: 1, Kids: []uint32{1}, Buf: []api.Msg{{Key: "b"}, {Key: "a"}}}, {Level: 1, Kids: []uint32{1}, Buf: []api.Msg{{Key: "a"}, {Key: "a"}}},
		{Level: 1, Kids: []uint32{1}, Buf: []api.Msg{{Key: "a", Val: strings.Repeat("v", c.Val+1)}}},
		{Level: 1, Kids: []uint32{1}, Buf: []api.Msg{{Key: "a", Del: true, Val: "v"}}},
	}
	rising := api.Node{}
	for i := range c.Leaf + 1 {
		rising.Pairs = append(rising.Pairs, api.Pair{Key: string([]byte{byte(1 + i/256), byte(i)})})
	}
	if c.Key == 1 {
		for i := range rising.Pairs {
			rising.Pairs[i].Key = string([]byte{byte(i)})
		}
	}
	full := api.Node{Level: 1, Kids: []uint32{1}}
	for _, p := range rising.Pairs[:c.Buffer+1] {
		full.Buf = append(full.Buf, api.Msg{Key: p.Key})
	}
	return append(l, rising, full)
}

func TestWrongNodes(t *testing.T) {
	for _, c := range settings() {
		p := pair(t, c)
		i := p.makes(simple(120))
		p.free(p.makes(simple(4)))
		for _, kept := range []uint32{0, i, 3} {
			p.keep(kept)
			for _, n := range wrongNodes(c) {
				p.refuseNode(n)
				for _, i := range []uint32{1, 2, 3, uint32(c.Blocks - 1)} {
					ahead := p.d.Stats()
					if err := p.s.Save(i, n); err != api.ErrForm {
						t.Errorf("Save(%d, %s) = %d", i, told(n), err)
					}
					p.cost(ahead, 0, 0, "a node that is refused")
				}
			}
			p.same()
			for i := range min(uint32(c.Blocks), 50) {
				p.load(i)
			}
		}
	}
}

// refuseNode has a shelf make a node that is not right.
func (p *both) refuseNode(n api.Node) {
	p.t.Helper()
	ahead := p.d.Stats()
	if i, err := p.s.Make(n); i != 0 || err != api.ErrForm {
		p.t.Errorf("Make(%s) = %d, %d", told(n), i, err)
	}
	p.cost(ahead, 0, 0, "a node that is refused")
}

// All blocks made, the lowest free one first; of a full shelf a wrong node is wrong, a right one too much.
func TestMake(t *testing.T) {
	for _, c := range []api.Config{few, nine, some, odd, long} {
		p := pair(t, c)
		for i := 1; i < c.Blocks; i++ {
			if at := p.makes(simple(i)); at != uint32(i) {
				t.Fatalf("Make number %d = %d", i, at)
			}
		}
		p.same()
		for range 3 {
			if p.makes(simple(9)) != 0 || p.s.Left() != 0 {
				t.Error("a full shelf has room")
			}
			p.refuseNode(api.Node{Level: -1})
		}
		p.loadAll()
		last := uint32(c.Blocks - 1)
		for _, l := range [][]uint32{{2}, {last, 1}, {3, 2, 4}, {1, last, 2}, {last}} {
			for _, i := range l {
				p.free(i)
			}
			p.same()
			p.makes(simple(33))
			for _, i := range l {
				p.load(i)
			}
			for range l {
				p.makes(simple(44))
			}
			p.same()
			p.loadAll()
		}
		p.flushed()
	}
}

func TestFree(t *testing.T) {
	p := pair(t, some)
	for i := uint32(1); i < 40; i++ {
		p.free(i) // free already
	}
	a, b := p.makes(simple(1)), p.makes(simple(2))
	p.free(b)
	p.free(b)
	p.load(a)
	p.keep(a)
	p.free(a)
	p.load(a)
	p.keep(0)
	p.free(a)
	p.free(a)
	// A block that is kept, and is not held, is kept first of all.
	p.keep(5)
	p.free(5)
	p.mark(5)
	p.free(5)
	p.keep(0)
	p.free(5)
	p.free(5)
	p.same()
	p.loadAll()
}

// What was freed ahead of being written is not written; nothing of it is in the block's next node.
func TestForgotten(t *testing.T) {
	p := pair(t, some)
	for range 8 {
		p.makes(simple(150))
	}
	for i := range uint32(9) {
		p.free(i)
	}
	p.flush()
	if p.s.Stats() != (api.Stats{}) {
		t.Errorf("Stats %v, where all was forgotten", p.s.Stats())
	}
	for range 3 {
		p.makes(leaf())
	}
	for i := range uint32(9) {
		p.load(i)
	}
	p.flushed()
	p.free(1)
	p.load(1)
	p.save(1, simple(9))
	p.load(1)
	p.free(1)
	p.makes(simple(10))
	p.load(1)
	p.flushed()
}

func TestMark(t *testing.T) {
	for _, c := range []api.Config{few, nine, some, odd, long} {
		p := pair(t, c)
		for i := 2; i < c.Blocks; i += 2 {
			p.mark(uint32(i))
			p.mark(uint32(i))
		}
		p.same()
		for i := 1; i < c.Blocks; i += 2 {
			if at := p.makes(simple(i)); at != uint32(i) {
				t.Fatalf("Make between blocks that are held = %d, not %d", at, i)
			}
		}
		p.makes(simple(1))
		for i := range c.Blocks {
			p.mark(uint32(i))
		}
		p.free(2)
		p.mark(2)
		p.free(2)
		p.makes(simple(5))
		p.mark(2)
		p.same()
		p.loadAll()
	}
}

// A block that is held only has what it had.
func TestMarkKeepsTheNode(t *testing.T) {
	p := pair(t, nine)
	p.save(4, simple(11))
	p.load(4)
	p.mark(4)
	p.load(4)
	p.flushed()
	p.free(4)
	p.mark(4)
	p.same()
}

// Whether a block is held is not asked by Load, Save or Keep.
func TestNotHeld(t *testing.T) {
	for _, c := range []api.Config{few, some, odd} {
		p := pair(t, c)
		for i := 1; i < c.Blocks; i++ {
			p.save(uint32(i), simple(i))
			p.load(uint32(i))
			p.keep(uint32(i))
			p.load(uint32(i))
		}
		p.same()
		if p.s.Left() != c.Blocks-1 {
			t.Errorf("Left %d of %d blocks, none of them held", p.s.Left(), c.Blocks)
		}
		p.loadAll()
		// The one that is kept is made like any other.
		p.keep(2)
		p.makes(simple(71))
		if p.makes(simple(72)) != 2 {
			t.Error("block 2 is not made")
		}
		p.load(2)
		p.load(1)
		p.free(2)
		p.flushed()
	}
}

// However many others are loaded, a block that is kept costs nothing; just the one that was kept last is.
func TestKeep(t *testing.T) {
	for _, c := range []api.Config{few, nine, some, odd, long} {
		p := pair(t, c)
		for i := 1; i < c.Blocks; i++ {
			p.makes(simple(i))
		}
		last := uint32(c.Blocks - 1)
		for _, i := range []uint32{1, 2, 2, last, 0, 0, 3, 1, last - 1, 4, 0} {
			p.keep(i)
			p.loadAll()
			p.save(3, simple(99))
			p.free(i)
			ahead := p.s.Stats()
			if i != 0 {
				p.load(i)
				p.keep(i)
				p.save(i, simple(int(i)+120))
				p.load(i)
			}
			if p.s.Stats() != ahead {
				t.Fatalf("what is asked of block %d, that is kept, costs %v behind %v", i, p.s.Stats(), ahead)
			}
			p.loadAll()
		}
		for i := range last {
			p.free(i)
		}
		p.same()
		p.flushed()
	}
}

// A block without a node may be kept, and be loaded in vain, at no cost.
func TestKeepNoughts(t *testing.T) {
	p := pair(t, some)
	p.keep(7)
	if p.s.Stats() != (api.Stats{Reads: 1}) {
		t.Errorf("Stats %v behind a Keep", p.s.Stats())
	}
	p.loadAll()
	for range 3 {
		p.load(7)
	}
	p.flush()
	p.save(7, simple(8))
	p.load(7)
	p.flushed()
	p.loadAll()
}

// As many blocks as there are frames stay in them, and no more; one is of the block that is kept.
func TestFrames(t *testing.T) {
	for _, c := range []api.Config{some, odd, long} {
		p := pair(t, c)
		load := func(n int, reads uint64) {
			t.Helper()
			ahead := p.s.Stats()
			for i := 1; i <= n; i++ {
				p.load(uint32(i))
			}
			if now := p.s.Stats(); now.Reads-ahead.Reads != reads || now.Writes != ahead.Writes {
				t.Errorf("of %d frames the blocks from 1 to %d cost %v, behind %v", c.Frames, n, now, ahead)
			}
		}
		all := uint64(c.Frames)
		load(c.Frames, all)
		load(c.Frames, 0)
		load(c.Frames+1, 1)
		load(c.Frames+1, all+1)
		p.keep(uint32(c.Frames + 2))
		load(c.Frames-1, all-1)
		load(c.Frames-1, 0)
		load(c.Frames, 1)
		load(c.Frames, all)
		p.keep(0)
		load(c.Frames, all)
		load(c.Frames, 0)
	}
}

func TestFlush(t *testing.T) {
	for _, c := range []api.Config{few, nine, some, odd, long} {
		p := pair(t, c)
		p.flush()
		p.makes(simple(201))
		p.keep(1)
		for i := 2; i < c.Blocks; i++ {
			p.makes(simple(i))
			if i == c.Frames {
				if p.s.Stats().Writes != 0 {
					t.Errorf("%d frames have no room for %d blocks", c.Frames, i)
				}
				p.flushed()
				if p.s.Stats().Writes != uint64(c.Frames) {
					t.Errorf("a Flush of %d frames writes %d", c.Frames, p.s.Stats().Writes)
				}
			}
		}
		p.flushed()
		ahead := p.s.Stats()
		p.flush()
		if p.s.Stats() != ahead {
			t.Errorf("a second Flush costs %v, behind %v", p.s.Stats(), ahead)
		}
		p.save(1, simple(202))
		p.flushed()
		if p.s.Stats().Writes != ahead.Writes+1 {
			t.Errorf("a Flush of one block costs %v, behind %v", p.s.Stats(), ahead)
		}
		p.same()
		p.loadAll()
	}
}

// A device may have any bytes: just those that are a node's block are loaded.
func TestAnyBytes(t *testing.T) {
	r := rand.New(rand.NewSource(18))
	for _, c := range []api.Config{few, nine, some, odd, long} {
		for range 10 {
			nodes := 0
			var image []byte
			for range c.Blocks {
				b, err := code.Encode(c, chanced(r, c))
				if err != api.OK {
					t.Fatal("a node that is not right")
				}
				switch r.Intn(4) {
				case 0:
					b[r.Intn(9)] ^= byte(1 << r.Intn(8))
				case 1:
					b[r.Intn(len(b))] = byte(r.Intn(256))
				case 2:
					b = make([]byte, c.Bytes)
					for i := range b {
						b[i] = byte(r.Intn(256) >> r.Intn(8))
					}
				}
				if _, err := code.Decode(c, b); err == api.OK {
					nodes++
				}
				image = append(image, b...)
			}
			d, err := dev.From(c.Bytes, image)
			if err != api.OK {
				t.Fatalf("From = %d", err)
			}
			p := shelved(t, c, d)
			p.loadAll()
			p.keep(1 + uint32(r.Intn(c.Blocks-1)))
			p.loadAll()
			p.same()
			p.flush()
			if !bytes.Equal(d.Image(), image) || d.Stats().Writes != 0 {
				t.Error("a device is another one behind being read")
			}
			if c.Blocks > 100 && (nodes < 20 || nodes > c.Blocks-20) {
				t.Errorf("of %d blocks %d have a node", c.Blocks, nodes)
			}
		}
	}
}

// Nodes with as much as may be.
func TestGreatNodes(t *testing.T) {
	r := rand.New(rand.NewSource(81))
	for _, c := range []api.Config{many, long} {
		p := pair(t, c)
		for k := range 90 {
			n := chanced(r, c)
			p.makes(n)
			p.load(uint32(k + 1))
			p.load(uint32(1 + r.Intn(k+1)))
			p.save(uint32(c.Blocks-1-r.Intn(5)), n)
		}
		for i := range uint32(95) {
			p.load(i)
		}
		for i := range uint32(6) {
			p.load(uint32(c.Blocks) - i)
		}
		p.flush()
	}
}

// step does one of some calls, by its number.
func (p *both) step(k int) {
	p.t.Helper()
	switch i := uint32(1 + k%2); k / 2 {
	case 0:
		p.makes(simple(k + 10*int(p.w.stats.Reads)))
	case 1:
		p.save(i, simple(k+200))
	case 2:
		p.load(i)
	case 3:
		p.free(i)
	case 4:
		p.keep(i)
	case 5:
		p.mark(i)
	case 6:
		p.keep(0)
	default:
		p.flush()
	}
}

// All rows of four calls, behind which all is as it must be.
func TestAllRows(t *testing.T) {
	const calls, length = 15, 4
	rows := 1
	for range length {
		rows *= calls
	}
	for row := range rows {
		p := pair(t, few)
		for x := row; x > 0; x /= calls {
			p.step(x % calls)
		}
		p.same()
		p.loadAll()
		p.flushed()
	}
}

// any does one call by chance, wrong ones among them.
func (p *both) any(r *rand.Rand) {
	p.t.Helper()
	i := uint32(r.Intn(p.w.c.Blocks))
	if r.Intn(2) == 0 {
		i = uint32(r.Intn(min(p.w.c.Blocks, 12)))
	}
	if r.Intn(40) == 0 {
		l := absent(p.w.c)
		i = l[r.Intn(len(l))]
	}
	switch x := r.Intn(100); {
	case x < 35:
		p.load(i)
	case x < 55:
		p.save(i, chanced(r, p.w.c))
	case x < 70:
		p.makes(chanced(r, p.w.c))
	case x < 82:
		p.free(i)
	case x < 85:
		p.mark(i)
	case x < 93:
		p.keep(i)
	case x < 95:
		p.flush()
	case x < 97:
		p.same()
	default:
		p.load(p.w.kept)
	}
}

func TestManyCalls(t *testing.T) {
	for seed, c := range []api.Config{few, nine, some, odd, long, some} {
		r := rand.New(rand.NewSource(int64(seed)))
		p := pair(t, c)
		for range 4 {
			for range 3000 {
				p.any(r)
			}
			p.same()
			p.loadAll()
			p.flushed()
		}
	}
}

// Two shelves have nothing in common but a device that was handed to both.
func TestTwoShelves(t *testing.T) {
	a, b := pair(t, nine), pair(t, nine)
	for k := range 9 {
		a.makes(simple(k))
		b.same()
		b.loadAll()
	}
	b.save(2, simple(77))
	b.keep(2)
	a.loadAll()
	a.same()
	a.flushed()
	b.flushed()
	// One behind the other, they may be of one device.
	c := shelved(t, nine, a.d)
	c.same()
	c.loadAll()
	c.free(1)
	c.mark(1)
	c.load(2)
}

// spare is a list with room behind it that has something.
func spare[T any](l []T, x T) []T {
	all := append(slices.Clone(l), x, x, x)
	return all[:len(l)]
}

// spoil changes all of a list, and what is behind it.
func spoil[T any](l []T, x T) {
	for i := range l[:cap(l)] {
		l[:cap(l)][i] = x
	}
}

// spoilNode changes all lists of a node.
func spoilNode(n *api.Node) {
	n.Level = 77
	spoil(n.Kids, 99)
	spoil(n.Pivots, "spoilt")
	spoil(n.Buf, api.Msg{Key: "spoilt"})
	spoil(n.Pairs, api.Pair{Key: "spoilt"})
}

// What is handed in doesn't change, and is not kept; what is told is the asker's.
func TestMemory(t *testing.T) {
	r := rand.New(rand.NewSource(5))
	for _, c := range []api.Config{few, some, odd} {
		for _, kept := range []uint32{0, 1, 2} {
			p := pair(t, c)
			p.keep(kept)
			for k := range 60 {
				is := chanced(r, c)
				n := api.Node{Level: is.Level, Kids: spare(is.Kids, 3), Pivots: spare(is.Pivots, "p"), Buf: spare(is.Buf, api.Msg{Key: "m"}), Pairs: spare(is.Pairs, api.Pair{Key: "q"})}
				ahead := copied(n)
				i := uint32(1 + k%4)
				if k < 2 {
					i = p.makes(n)
				} else {
					p.save(i, n)
				}
				if !alike(n, ahead) || !tailed(n.Kids, 3) || !tailed(n.Pivots, "p") || !tailed(n.Buf, api.Msg{Key: "m"}) || !tailed(n.Pairs, api.Pair{Key: "q"}) {
					t.Fatalf("what was handed in is %s, not %s", told(n), told(ahead))
				}
				spoilNode(&n)
				p.load(i)
				one, err := p.s.Load(i)
				if err != api.OK {
					t.Fatalf("Load(%d) = %d", i, err)
				}
				two, _ := p.s.Load(i)
				spoilNode(&one)
				if !alike(two, ahead) {
					t.Fatalf("what was told ahead is %s, not %s", told(two), told(ahead))
				}
				p.load(i)
			}
			l := p.s.Held()
			spoil(l, 4)
			p.same()
			p.flushed()
		}
	}
}

// tailed tells whether behind a list stands what was put there.
func tailed[T comparable](l []T, x T) bool {
	tail := l[len(l) : len(l)+3]
	return tail[0] == x && tail[1] == x && tail[2] == x
}
