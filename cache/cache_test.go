package cache_test

import (
	"bytes"
	"math"
	"math/rand"
	"slices"
	"testing"

	"sluicegate/api"
	"sluicegate/cache"
	"sluicegate/dev"
)

// device is a device of blocks unlike each other.
func device(t *testing.T, blocks, size int) *dev.Device {
	t.Helper()
	var image []byte
	for i := range blocks {
		image = append(image, filled(size, i)...)
	}
	d, err := dev.From(size, image)
	if err != api.OK || d == nil {
		t.Fatalf("From(%d) of %d blocks = %v, %d", size, blocks, d, err)
	}
	return d
}

// filled are n bytes, none of them 0, those of neighbouring seeds unlike.
func filled(n, seed int) []byte {
	b := make([]byte, n)
	for i := range b {
		b[i] = byte(1 + (i*7+i/251+seed*31)%255)
	}
	return b
}

// made is a cache of a device.
func made(t *testing.T, d *dev.Device, frames int) *cache.Cache {
	t.Helper()
	c, err := cache.New(d, frames)
	if err != api.OK || c == nil {
		t.Fatalf("New of %d frames = %v, %d", frames, c, err)
	}
	return c
}

// slot is a block that must be in a frame.
type slot struct {
	bytes []byte
	dirty bool
	pins  int
}

// shadow is what a cache, and its device, must have, as the document words it.
type shadow struct {
	blocks [][]byte
	stats  api.Stats
	frames int
	in     map[uint32]*slot
	row    []uint32
}

// shade is what a new cache of a device must have.
func shade(d *dev.Device, frames int) *shadow {
	s := &shadow{stats: d.Stats(), frames: frames, in: map[uint32]*slot{}}
	for b := range slices.Chunk(d.Image(), d.Bytes()) {
		s.blocks = append(s.blocks, b)
	}
	return s
}

// both are a cache of a new device, its device, and what they must have.
type both struct {
	d *dev.Device
	c *cache.Cache
	s *shadow
}

// pair is a new cache of a new device.
func pair(t *testing.T, blocks, size, frames int) *both {
	t.Helper()
	d := device(t, blocks, size)
	return &both{d: d, c: made(t, d, frames), s: shade(d, frames)}
}

// write writes a block to the device.
func (s *shadow) write(i uint32) {
	s.blocks[i] = slices.Clone(s.in[i].bytes)
	s.in[i].dirty = false
	s.stats.Writes++
}

// unrow takes a block out of the row.
func (s *shadow) unrow(i uint32) {
	s.row = slices.DeleteFunc(s.row, func(x uint32) bool { return x == i })
}

// room makes room, or tells that there is none.
func (s *shadow) room() bool {
	if len(s.in) < s.frames {
		return true
	}
	if len(s.row) == 0 {
		return false
	}
	last := s.row[len(s.row)-1]
	if s.in[last].dirty {
		s.write(last)
	}
	delete(s.in, last)
	s.unrow(last)
	return true
}

// pin is what a Pin must answer.
func (s *shadow) pin(i uint32) api.Errno {
	if uint64(i) >= uint64(len(s.blocks)) {
		return api.ErrRange
	}
	if x := s.in[i]; x != nil {
		x.pins++
		s.unrow(i)
		return api.OK
	}
	if !s.room() {
		return api.ErrPin
	}
	s.stats.Reads++
	s.in[i] = &slot{bytes: slices.Clone(s.blocks[i]), pins: 1}
	return api.OK
}

// fresh is what a Fresh must answer.
func (s *shadow) fresh(i uint32) api.Errno {
	if uint64(i) >= uint64(len(s.blocks)) {
		return api.ErrRange
	}
	if s.pins(i) > 0 {
		return api.ErrState
	}
	if s.in[i] == nil && !s.room() {
		return api.ErrPin
	}
	s.unrow(i)
	s.in[i] = &slot{bytes: make([]byte, len(s.blocks[i])), dirty: true, pins: 1}
	return api.OK
}

// unpin is what an Unpin must answer.
func (s *shadow) unpin(i uint32) api.Errno {
	if s.pins(i) == 0 {
		return api.ErrState
	}
	s.in[i].pins--
	if s.in[i].pins == 0 {
		s.row = slices.Insert(s.row, 0, i)
	}
	return api.OK
}

// put is what a Write must answer.
func (s *shadow) put(i uint32, b []byte) api.Errno {
	if s.pins(i) == 0 {
		return api.ErrState
	}
	if len(b) != len(s.blocks[i]) {
		return api.ErrForm
	}
	s.in[i].bytes, s.in[i].dirty = slices.Clone(b), true
	return api.OK
}

// drop is what a Drop must answer.
func (s *shadow) drop(i uint32) api.Errno {
	if s.pins(i) > 0 {
		return api.ErrState
	}
	delete(s.in, i)
	s.unrow(i)
	return api.OK
}

// flush is what a Flush must do.
func (s *shadow) flush() {
	for _, i := range s.dirty() {
		s.write(i)
	}
}

// pins is how often a block must be pinned.
func (s *shadow) pins(i uint32) int {
	if s.in[i] == nil {
		return 0
	}
	return s.in[i].pins
}

// dirty is the blocks that must be dirty.
func (s *shadow) dirty() []uint32 {
	var l []uint32
	for i := range s.blocks {
		if x := s.in[uint32(i)]; x != nil && x.dirty {
			l = append(l, uint32(i))
		}
	}
	return l
}

// known is how many pinned blocks there are, and how many frames have a block.
func (s *shadow) known() (pinned, used int) {
	return len(s.in) - len(s.row), len(s.in)
}

// pin pins a block.
func (p *both) pin(t *testing.T, i uint32, what string) api.Errno {
	t.Helper()
	want := p.s.pin(i)
	if err := p.c.Pin(i); err != want {
		t.Fatalf("%s: Pin(%d) = %d, not %d", what, i, err, want)
	}
	return want
}

// fresh has a block be of noughts.
func (p *both) fresh(t *testing.T, i uint32, what string) api.Errno {
	t.Helper()
	want := p.s.fresh(i)
	if err := p.c.Fresh(i); err != want {
		t.Fatalf("%s: Fresh(%d) = %d, not %d", what, i, err, want)
	}
	return want
}

// unpin lets a block go.
func (p *both) unpin(t *testing.T, i uint32, what string) {
	t.Helper()
	want := p.s.unpin(i)
	if err := p.c.Unpin(i); err != want {
		t.Fatalf("%s: Unpin(%d) = %d, not %d", what, i, err, want)
	}
}

// read reads a block.
func (p *both) read(t *testing.T, i uint32, what string) []byte {
	t.Helper()
	var want []byte
	wantErr := api.ErrState
	if p.s.pins(i) > 0 {
		want, wantErr = p.s.in[i].bytes, api.OK
	}
	b, err := p.c.Read(i)
	if !bytes.Equal(b, want) || err != wantErr {
		t.Fatalf("%s: Read(%d) = %v, %d, not %v, %d", what, i, b, err, want, wantErr)
	}
	return b
}

// write gives a block bytes.
func (p *both) write(t *testing.T, i uint32, b []byte, what string) {
	t.Helper()
	want := p.s.put(i, b)
	if err := p.c.Write(i, b); err != want {
		t.Fatalf("%s: Write(%d) of %d bytes = %d, not %d", what, i, len(b), err, want)
	}
}

// drop forgets a block.
func (p *both) drop(t *testing.T, i uint32, what string) {
	t.Helper()
	want := p.s.drop(i)
	if err := p.c.Drop(i); err != want {
		t.Fatalf("%s: Drop(%d) = %d, not %d", what, i, err, want)
	}
}

// flush writes all that is dirty.
func (p *both) flush(t *testing.T, what string) {
	t.Helper()
	p.s.flush()
	if err := p.c.Flush(); err != api.OK {
		t.Fatalf("%s: Flush = %d", what, err)
	}
}

// counted holds what the device was asked against what it must have been.
func (p *both) counted(t *testing.T, what string) {
	t.Helper()
	if p.d.Stats() != p.s.stats {
		t.Fatalf("%s: Stats %v, not %v", what, p.d.Stats(), p.s.stats)
	}
}

// same holds all that a cache and its device tell without a change against what they must.
func (p *both) same(t *testing.T, what string) {
	t.Helper()
	p.counted(t, what)
	if l := p.c.Row(); !slices.Equal(l, p.s.row) {
		t.Fatalf("%s: Row %v, not %v", what, l, p.s.row)
	}
	if l := p.c.Dirty(); !slices.Equal(l, p.s.dirty()) {
		t.Fatalf("%s: Dirty %v, not %v", what, l, p.s.dirty())
	}
	if _, used := p.s.known(); p.c.Used() != used {
		t.Fatalf("%s: Used %d, not %d", what, p.c.Used(), used)
	}
	for i := range p.s.blocks {
		if n, want := p.c.Pins(uint32(i)), p.s.pins(uint32(i)); n != want {
			t.Fatalf("%s: Pins(%d) = %d, not %d", what, i, n, want)
		}
		p.read(t, uint32(i), what)
	}
	for _, i := range absent(len(p.s.blocks)) {
		if p.c.Pins(i) != 0 {
			t.Fatalf("%s: Pins(%d) of %d blocks = %d", what, i, len(p.s.blocks), p.c.Pins(i))
		}
	}
	if !bytes.Equal(p.d.Image(), slices.Concat(p.s.blocks...)) {
		t.Fatalf("%s: the device has %v, not %v", what, p.d.Image(), p.s.blocks)
	}
	p.counted(t, what)
}

// absent are numbers of blocks that a device of n blocks doesn't have.
func absent(n int) []uint32 {
	l := []uint32{uint32(n), uint32(n + 1), uint32(n + 63), uint32(2 * n), api.MaxBlocks, api.MaxBlocks + 1, 1<<31 - 1, 1 << 31, 1<<31 + 1, math.MaxUint32 - 1, math.MaxUint32}
	return slices.DeleteFunc(l, func(i uint32) bool { return i < uint32(n) })
}

// outside are numbers of frames that no cache has.
var outside = []int{math.MinInt, math.MinInt + 1, math.MinInt32, -64, -8, -2, -1, 0, 65, 66, 128, 4096, 4097, 65536, math.MaxInt32, 1 << 32, 1<<32 + 1, math.MaxInt - 1, math.MaxInt}

func TestLimits(t *testing.T) {
	if api.MaxFrames != 64 || api.MinBlocks != 5 || api.MaxBlocks != 65536 || api.MaxBytes != 65536 {
		t.Error("the limits are other ones than the document's")
	}
}

func TestNew(t *testing.T) {
	for _, frames := range append([]int{1, 8, 64}, outside...) {
		for _, d := range []*dev.Device{nil, {}, new(dev.Device)} {
			if c, err := cache.New(d, frames); c != nil || err != api.ErrNil {
				t.Errorf("New of nobody's device, of %d frames = %v, %d", frames, c, err)
			}
		}
	}
	d := device(t, 5, 3)
	for _, frames := range outside {
		if c, err := cache.New(d, frames); c != nil || err != api.ErrArg {
			t.Errorf("New of %d frames = %v, %d", frames, c, err)
		}
	}
	if d.Stats() != (api.Stats{}) {
		t.Errorf("Stats %v behind calls that were refused", d.Stats())
	}
	for frames := 1; frames <= 64; frames++ {
		pair(t, 5, 1, frames).same(t, "a new cache")
	}
}

// TestKinds: devices of all kinds may have a cache, new ones and used ones.
func TestKinds(t *testing.T) {
	for _, x := range [][3]int{{5, 1, 1}, {5, 65536, 2}, {65536, 1, 64}, {64, 173, 8}, {300, 64, 64}} {
		d, err := dev.New(x[0], x[1])
		if err != api.OK {
			t.Fatalf("New(%d, %d) = %d", x[0], x[1], err)
		}
		if _, err := d.Read(4); err != api.OK {
			t.Fatalf("Read(4) = %d", err)
		}
		p := &both{d: d, c: made(t, d, x[2]), s: shade(d, x[2])}
		p.counted(t, "a used device")
		last := uint32(x[0] - 1)
		p.pin(t, last, "the last block")
		p.read(t, last, "the last block")
		p.write(t, last, filled(x[1], 5), "the last block")
		p.unpin(t, last, "the last block")
		p.fresh(t, 0, "the first block")
		p.write(t, 0, filled(x[1], 6), "the first block")
		for _, i := range absent(x[0]) {
			p.pin(t, i, "no block")
			p.fresh(t, i, "no block")
			p.unpin(t, i, "no block")
			p.read(t, i, "no block")
			p.write(t, i, filled(x[1], 1), "no block")
			p.drop(t, i, "no block")
		}
		if pinned, used := p.s.known(); pinned != 1 || p.c.Used() != used || p.c.Pins(0) != 1 || p.c.Pins(last) != 0 {
			t.Errorf("Used %d, Pins %d and %d", p.c.Used(), p.c.Pins(0), p.c.Pins(last))
		}
		p.flush(t, "both blocks")
		p.counted(t, "both blocks")
		if !bytes.Equal(d.Image(), slices.Concat(p.s.blocks...)) {
			t.Errorf("the device of %d blocks of %d bytes is another one", x[0], x[1])
		}
	}
}

func TestExamples(t *testing.T) {
	p := pair(t, 5, 4, 1)
	steps := []struct {
		what string
		err  api.Errno
		cost api.Stats
	}{
		{"Pin 1", p.c.Pin(1), api.Stats{}},
		{"Write 1", p.c.Write(1, []byte{9, 8, 7, 6}), api.Stats{}},
		{"Unpin 1", p.c.Unpin(1), api.Stats{}},
	}
	for _, x := range steps {
		if x.err != api.OK {
			t.Errorf("%s = %d", x.what, x.err)
		}
	}
	if p.d.Stats() != (api.Stats{Reads: 1}) {
		t.Errorf("Stats %v ahead of Pin 2", p.d.Stats())
	}
	if err := p.c.Pin(2); err != api.OK {
		t.Errorf("Pin 2 = %d", err)
	}
	if p.d.Stats() != (api.Stats{Reads: 2, Writes: 1}) {
		t.Errorf("Stats %v behind Pin 2", p.d.Stats())
	}
	if b, err := p.d.Read(1); !bytes.Equal(b, []byte{9, 8, 7, 6}) || err != api.OK {
		t.Errorf("the device's block 1 is %v, %d", b, err)
	}
	if b, err := p.c.Read(2); !bytes.Equal(b, filled(4, 2)) || err != api.OK {
		t.Errorf("Read 2 = %v, %d", b, err)
	}
	if err := p.c.Pin(3); err != api.ErrPin {
		t.Errorf("Pin 3 = %d", err)
	}
}

// call is one of the calls that change a cache.
type call struct {
	kind int
	i    uint32
}

// calls are all that change a cache, with each of the blocks told.
func calls(blocks ...uint32) []call {
	l := []call{{kind: 0}}
	for kind := 1; kind <= 5; kind++ {
		for _, i := range blocks {
			l = append(l, call{kind, i})
		}
	}
	return l
}

// do makes a call; what a Write writes hangs on step.
func (p *both) do(t *testing.T, x call, step int, what string) {
	t.Helper()
	switch x.kind {
	case 0:
		p.flush(t, what)
	case 1:
		p.pin(t, x.i, what)
	case 2:
		p.unpin(t, x.i, what)
	case 3:
		p.fresh(t, x.i, what)
	case 4:
		p.write(t, x.i, filled(p.d.Bytes(), 100+step), what)
	case 5:
		p.drop(t, x.i, what)
	}
}

// TestEachRow: all rows of a few calls on small caches are answered, and counted, as they must be.
func TestEachRow(t *testing.T) {
	for _, x := range []struct {
		frames, long int
		blocks       []uint32
	}{{1, 5, []uint32{0, 4}}, {1, 3, []uint32{0, 2, 4, 5}}, {2, 4, []uint32{0, 1, 2}}, {2, 4, []uint32{0, 3}}, {3, 4, []uint32{1, 2, 3}}} {
		every := calls(x.blocks...)
		sets := 1
		for range x.long {
			sets *= len(every)
		}
		for set := range sets {
			p := pair(t, 5, 1, x.frames)
			for step, rest := 0, set; step < x.long; step, rest = step+1, rest/len(every) {
				p.do(t, every[rest%len(every)], step, "a row of calls")
			}
			p.same(t, "a row of calls")
			p.flush(t, "a row of calls")
			p.same(t, "a row of calls, flushed")
		}
	}
}

// TestEachState: in each of the ways in which two blocks may stand in up to three frames, each call answers as it must, and changes just what it must.
func TestEachState(t *testing.T) {
	// The ways: in no frame, clean and dirty, not pinned and pinned once and twice.
	ways := [][]int{{}, {1, 2}, {3, 2}, {1}, {3}, {1, 1}, {3, 1}, {1, 4}, {1, 4, 1}, {1, 4, 2}}
	for frames := 2; frames <= 3; frames++ {
		for a := range ways {
			for b := range ways {
				for swapped := range 2 {
					for _, x := range calls(1, 2, 3, 9) {
						p := pair(t, 5, 2, frames)
						blocks, rows := []uint32{1, 2}, [][]int{ways[a], ways[b]}
						if swapped == 1 {
							slices.Reverse(blocks)
							slices.Reverse(rows)
						}
						for at, row := range rows {
							for step, kind := range row {
								p.do(t, call{kind, blocks[at]}, step, "a state")
							}
						}
						p.same(t, "a state")
						p.do(t, x, 50, "a state")
						p.same(t, "a call")
					}
				}
			}
		}
	}
}

// TestErrors: of several errors the first one is answered, and nothing is changed with any of them.
func TestErrors(t *testing.T) {
	p := pair(t, 6, 3, 2)
	p.pin(t, 1, "made ready")
	p.fresh(t, 2, "made ready")
	p.pin(t, 2, "made ready")
	p.same(t, "all frames are pinned")
	if err := p.c.Pin(6); err != api.ErrRange {
		t.Errorf("Pin of no block, where all are pinned, = %d", err)
	}
	if err := p.c.Pin(3); err != api.ErrPin {
		t.Errorf("Pin where all are pinned = %d", err)
	}
	if err := p.c.Fresh(6); err != api.ErrRange {
		t.Errorf("Fresh of no block, where all are pinned, = %d", err)
	}
	if err := p.c.Fresh(1); err != api.ErrState {
		t.Errorf("Fresh of a pinned block, where all are pinned, = %d", err)
	}
	if err := p.c.Fresh(3); err != api.ErrPin {
		t.Errorf("Fresh where all are pinned = %d", err)
	}
	p.same(t, "errors of Pin and Fresh")
	for _, b := range [][]byte{nil, {}, {1}, {1, 2}, {1, 2, 3, 4}, filled(6, 1), filled(18, 1), filled(65536, 1)} {
		if err := p.c.Write(1, b); err != api.ErrForm {
			t.Errorf("Write of %d bytes = %d", len(b), err)
		}
		for _, i := range append(absent(6), 0, 3, 4, 5) {
			if err := p.c.Write(i, b); err != api.ErrState {
				t.Errorf("Write(%d) of %d bytes = %d", i, len(b), err)
			}
		}
	}
	for _, i := range append(absent(6), 0, 3, 4, 5) {
		if err := p.c.Write(i, []byte{1, 2, 3}); err != api.ErrState {
			t.Errorf("Write(%d) = %d", i, err)
		}
		if b, err := p.c.Read(i); len(b) != 0 || err != api.ErrState {
			t.Errorf("Read(%d) = %v, %d", i, b, err)
		}
		if err := p.c.Unpin(i); err != api.ErrState {
			t.Errorf("Unpin(%d) = %d", i, err)
		}
		if err := p.c.Drop(i); err != api.OK {
			t.Errorf("Drop(%d) = %d", i, err)
		}
	}
	for _, i := range []uint32{1, 2} {
		if err := p.c.Drop(i); err != api.ErrState {
			t.Errorf("Drop(%d), which is pinned, = %d", i, err)
		}
	}
	p.same(t, "errors of blocks")
}

// TestRow: the row is by the time of the last Unpin alone, and its last block is the one that goes.
func TestRow(t *testing.T) {
	p := pair(t, 9, 2, 4)
	for _, i := range []uint32{1, 2, 3, 4} {
		p.pin(t, i, "four blocks")
	}
	p.pin(t, 3, "four blocks")
	for _, i := range []uint32{3, 2, 4, 1, 3} {
		p.unpin(t, i, "four blocks")
	}
	if l := p.c.Row(); !slices.Equal(l, []uint32{3, 1, 4, 2}) {
		t.Errorf("Row %v", l)
	}
	p.pin(t, 4, "one is pinned once more")
	p.write(t, 4, []byte{5, 6}, "one is pinned once more")
	if l := p.c.Row(); !slices.Equal(l, []uint32{3, 1, 2}) {
		t.Errorf("Row %v, where 4 is pinned", l)
	}
	p.flush(t, "a Flush")
	if l := p.c.Row(); !slices.Equal(l, []uint32{3, 1, 2}) {
		t.Errorf("Row %v behind a Flush", l)
	}
	p.unpin(t, 4, "it is let go")
	p.pin(t, 5, "a fifth one")
	if l := p.c.Row(); !slices.Equal(l, []uint32{4, 3, 1}) {
		t.Errorf("Row %v behind the Pin of a fifth one", l)
	}
	p.drop(t, 3, "one is dropped")
	p.fresh(t, 6, "a sixth one")
	if l := p.c.Row(); !slices.Equal(l, []uint32{4, 1}) {
		t.Errorf("Row %v behind the Fresh of a sixth one", l)
	}
	p.pin(t, 7, "a seventh one")
	p.pin(t, 8, "an eighth one")
	if l := p.c.Row(); len(l) != 0 {
		t.Errorf("Row %v, where all are pinned", l)
	}
	if p.pin(t, 0, "a ninth one") != api.ErrPin {
		t.Error("a ninth block was pinned")
	}
	p.same(t, "all are pinned")
}

// TestEmptyFirst: as long as a frame is empty, no block goes, wherever the frame is.
func TestEmptyFirst(t *testing.T) {
	for gone := uint32(0); gone < 4; gone++ {
		p := pair(t, 12, 2, 4)
		for i := uint32(0); i < 4; i++ {
			p.fresh(t, i, "four blocks")
			p.unpin(t, i, "four blocks")
		}
		p.drop(t, gone, "one is dropped")
		p.same(t, "one is dropped")
		stats := p.d.Stats()
		p.fresh(t, 7, "another one")
		if p.d.Stats() != stats || p.c.Used() != 4 {
			t.Errorf("Stats %v, not %v, Used %d, where frame %d was empty", p.d.Stats(), stats, p.c.Used(), gone)
		}
		p.same(t, "another one")
		p.pin(t, 8, "no frame is empty")
		if p.d.Stats() != (api.Stats{Reads: stats.Reads + 1, Writes: stats.Writes + 1}) {
			t.Errorf("Stats %v, not a read and a write more than %v", p.d.Stats(), stats)
		}
		p.same(t, "no frame is empty")
	}
}

// TestPins: a block is pinned as often as it was, and let go at the last Unpin alone.
func TestPins(t *testing.T) {
	p := pair(t, 5, 2, 1)
	for n := 1; n <= 5000; n++ {
		p.pin(t, 3, "pinned once more")
		if p.c.Pins(3) != n || len(p.c.Row()) != 0 {
			t.Fatalf("Pins %d behind %d", p.c.Pins(3), n)
		}
	}
	p.same(t, "pinned often")
	for n := 4999; n >= 0; n-- {
		if p.pin(t, 2, "it is pinned") != api.ErrPin {
			t.Fatal("another block was pinned")
		}
		p.unpin(t, 3, "let go once more")
		if p.c.Pins(3) != n || len(p.c.Row()) != 0 != (n == 0) {
			t.Fatalf("Pins %d, not %d, Row %v", p.c.Pins(3), n, p.c.Row())
		}
	}
	p.unpin(t, 3, "it is not pinned")
	p.same(t, "it is not pinned")
	p.pin(t, 2, "it is not pinned")
	p.same(t, "another block")
}

// TestFresh: a Fresh reads nothing, whatever the block had, and where; it is dirty though nobody wrote it.
func TestFresh(t *testing.T) {
	p := pair(t, 5, 3, 2)
	p.fresh(t, 1, "in no frame")
	if b := p.read(t, 1, "in no frame"); !bytes.Equal(b, []byte{0, 0, 0}) {
		t.Errorf("Fresh has %v", b)
	}
	if p.d.Stats() != (api.Stats{}) || !slices.Equal(p.c.Dirty(), []uint32{1}) {
		t.Errorf("Stats %v, Dirty %v behind a Fresh", p.d.Stats(), p.c.Dirty())
	}
	p.write(t, 1, []byte{7, 8, 9}, "written")
	p.flush(t, "written")
	p.unpin(t, 1, "written")
	stats := p.d.Stats()
	p.fresh(t, 1, "in a frame")
	if b := p.read(t, 1, "in a frame"); !bytes.Equal(b, []byte{0, 0, 0}) {
		t.Errorf("Fresh of a block that was written has %v", b)
	}
	if p.d.Stats() != stats || !slices.Equal(p.c.Dirty(), []uint32{1}) || p.c.Pins(1) != 1 || len(p.c.Row()) != 0 || p.c.Used() != 1 {
		t.Errorf("Stats %v, Dirty %v, Pins %d, Row %v, Used %d behind a Fresh in a frame", p.d.Stats(), p.c.Dirty(), p.c.Pins(1), p.c.Row(), p.c.Used())
	}
	p.unpin(t, 1, "a Fresh")
	p.pin(t, 2, "two others")
	p.pin(t, 3, "two others")
	if b, err := p.d.Read(1); !bytes.Equal(b, []byte{0, 0, 0}) || err != api.OK {
		t.Errorf("the device has %v, %d, not noughts", b, err)
	}
}

// TestDrop: what is dropped is not written, and reads as the device has it.
func TestDrop(t *testing.T) {
	p := pair(t, 5, 3, 2)
	p.pin(t, 1, "a block")
	p.write(t, 1, []byte{7, 8, 9}, "a block")
	p.unpin(t, 1, "a block")
	p.drop(t, 1, "a block")
	if p.c.Used() != 0 || len(p.c.Row()) != 0 || len(p.c.Dirty()) != 0 || p.d.Stats() != (api.Stats{Reads: 1}) {
		t.Errorf("Used %d, Row %v, Dirty %v, Stats %v behind a Drop", p.c.Used(), p.c.Row(), p.c.Dirty(), p.d.Stats())
	}
	p.drop(t, 1, "it is in no frame")
	p.flush(t, "it is in no frame")
	p.same(t, "it is in no frame")
	p.pin(t, 1, "pinned once more")
	if b := p.read(t, 1, "pinned once more"); !bytes.Equal(b, filled(3, 1)) {
		t.Errorf("what was dropped reads as %v", b)
	}
	p.same(t, "pinned once more")
}

// TestFlush: just what is dirty is written, once, be it pinned or not, and stays in its frame.
func TestFlush(t *testing.T) {
	p := pair(t, 80, 2, 64)
	for i := uint32(0); i < 64; i++ {
		// Blocks come in no order, so that Dirty must put them into one.
		at := i * 37 % 80
		p.pin(t, at, "many blocks")
		if i%3 > 0 {
			p.write(t, at, filled(2, int(i)+90), "many blocks")
		}
		if i%2 > 0 {
			p.unpin(t, at, "many blocks")
		}
	}
	p.same(t, "many blocks")
	stats, n := p.d.Stats(), len(p.c.Dirty())
	p.flush(t, "many blocks")
	if want := (api.Stats{Reads: stats.Reads, Writes: stats.Writes + uint64(n)}); n != 42 || p.d.Stats() != want {
		t.Errorf("Stats %v, not %v, where %d were dirty", p.d.Stats(), want, n)
	}
	p.same(t, "flushed")
	stats = p.d.Stats()
	p.flush(t, "once more")
	if p.d.Stats() != stats || p.c.Used() != 64 {
		t.Errorf("Stats %v, not %v, Used %d, behind a second Flush", p.d.Stats(), stats, p.c.Used())
	}
}

// TestSameBytes: what is written as it was is dirty none the less.
func TestSameBytes(t *testing.T) {
	p := pair(t, 5, 3, 1)
	p.pin(t, 1, "a block")
	p.write(t, 1, filled(3, 1), "the bytes that it has")
	if !slices.Equal(p.c.Dirty(), []uint32{1}) {
		t.Errorf("Dirty %v", p.c.Dirty())
	}
	p.flush(t, "the bytes that it has")
	if p.d.Stats() != (api.Stats{Reads: 1, Writes: 1}) {
		t.Errorf("Stats %v", p.d.Stats())
	}
	p.unpin(t, 1, "clean")
	p.pin(t, 2, "clean")
	if p.d.Stats() != (api.Stats{Reads: 2, Writes: 1}) {
		t.Errorf("Stats %v: what was clean was written", p.d.Stats())
	}
	p.same(t, "clean")
}

// TestMany: long rows of calls, wrong ones among them, are answered as they must be, and each costs no more than it may.
func TestMany(t *testing.T) {
	for seed := range int64(150) {
		r := rand.New(rand.NewSource(seed))
		frames := []int{1, 2, 3, 5, 8, 64}[r.Intn(6)]
		blocks := 5 + r.Intn(2*frames+3)
		p := pair(t, blocks, 1+r.Intn(9), frames)
		for step := range 400 {
			i := uint32(r.Intn(blocks))
			if r.Intn(30) == 0 {
				all := absent(blocks)
				i = all[r.Intn(len(all))]
			}
			kind := []int{0, 1, 1, 1, 1, 1, 2, 2, 2, 2, 2, 3, 4, 4, 4, 5}[r.Intn(16)]
			if kind == 0 && r.Intn(4) > 0 {
				kind = 2
			}
			before, dirty := p.d.Stats(), len(p.s.dirty())
			if r.Intn(20) == 0 {
				p.write(t, i, filled(r.Intn(12), step), "a Write")
			} else {
				p.do(t, call{kind, i}, step, "a call")
			}
			p.cheap(t, kind, before, dirty)
			if step%7 == 0 {
				p.same(t, "a call")
			}
		}
		p.same(t, "many calls")
		p.flush(t, "many calls")
		p.same(t, "many calls, flushed")
	}
}

// cheap holds the cost of a call against what it may cost at most.
func (p *both) cheap(t *testing.T, kind int, before api.Stats, dirty int) {
	t.Helper()
	now := p.d.Stats()
	reads, writes := now.Reads-before.Reads, now.Writes-before.Writes
	most := map[int][2]int{0: {0, dirty}, 1: {1, 1}, 3: {0, 1}}[kind]
	if reads > uint64(most[0]) || writes > uint64(most[1]) || dirty > p.s.frames {
		t.Fatalf("a call of kind %d read %d blocks and wrote %d, where %d were dirty", kind, reads, writes, dirty)
	}
}

// TestAsWritten: what is read is what was written last, or what the device had, and behind a Flush the device has it, too.
func TestAsWritten(t *testing.T) {
	for seed := range int64(60) {
		r := rand.New(rand.NewSource(seed))
		frames := 1 + r.Intn(10)
		blocks := 5 + r.Intn(30)
		d := device(t, blocks, 4)
		c := made(t, d, frames)
		last := make([][]byte, blocks)
		for i := range last {
			last[i] = filled(4, i)
		}
		for step := range 300 {
			i := r.Intn(blocks)
			if r.Intn(5) == 0 {
				if err := c.Fresh(uint32(i)); err != api.OK {
					t.Fatalf("Fresh(%d) = %d", i, err)
				}
				last[i] = make([]byte, 4)
			} else if err := c.Pin(uint32(i)); err != api.OK {
				t.Fatalf("Pin(%d) = %d", i, err)
			}
			if b, err := c.Read(uint32(i)); !bytes.Equal(b, last[i]) || err != api.OK {
				t.Fatalf("Read(%d) = %v, %d, not %v", i, b, err, last[i])
			}
			if r.Intn(2) == 0 {
				last[i] = filled(4, step+200)
				if err := c.Write(uint32(i), last[i]); err != api.OK {
					t.Fatalf("Write(%d) = %d", i, err)
				}
			}
			if err := c.Unpin(uint32(i)); err != api.OK {
				t.Fatalf("Unpin(%d) = %d", i, err)
			}
			if r.Intn(40) > 0 {
				continue
			}
			if err := c.Flush(); err != api.OK {
				t.Fatalf("Flush = %d", err)
			}
			if !bytes.Equal(d.Image(), slices.Concat(last...)) {
				t.Fatal("behind a Flush the device has other bytes than would be read")
			}
		}
	}
}

// TestMemory: what is handed in and what is told may be changed, and the cache knows nothing of it.
func TestMemory(t *testing.T) {
	p := pair(t, 5, 3, 3)
	p.pin(t, 1, "a block")
	spare := []byte{1, 2, 3, 77, 78}
	p.write(t, 1, spare[:3], "a block")
	if !slices.Equal(spare, []byte{1, 2, 3, 77, 78}) {
		t.Errorf("a Write changed what it was handed to %v", spare)
	}
	copy(spare, []byte{50, 51, 52, 53, 54})
	p.same(t, "what was written is changed")
	b := p.read(t, 1, "a block")
	copy(b, []byte{60, 61, 62})
	_ = append(b, 63)
	p.same(t, "what was read is changed")
	p.pin(t, 2, "another block")
	copy(p.read(t, 2, "another block"), []byte{60, 61, 62})
	p.same(t, "what was read from the device is changed")
	p.fresh(t, 3, "a new block")
	copy(p.read(t, 3, "a new block"), []byte{60, 61, 62})
	p.same(t, "noughts that were read are changed")
	if l := p.c.Dirty(); len(l) == 2 {
		l[0], l[1] = 4, 0
	} else {
		t.Errorf("Dirty %v", l)
	}
	p.unpin(t, 1, "let go")
	p.unpin(t, 3, "let go")
	if l := p.c.Row(); len(l) == 2 {
		l[0], l[1] = 4, 0
		_ = append(l, 4)
	} else {
		t.Errorf("Row %v", l)
	}
	p.same(t, "lists are changed")
	p.flush(t, "lists are changed")
	p.write(t, 2, []byte{4, 5, 6}, "written behind a Flush")
	p.same(t, "the device keeps what it was given")
}

// TestApart: two caches have nothing in common.
func TestApart(t *testing.T) {
	p, q := pair(t, 6, 2, 2), pair(t, 6, 2, 3)
	r := rand.New(rand.NewSource(8))
	every := calls(0, 1, 2, 3, 5)
	for step := range 600 {
		p.do(t, every[r.Intn(len(every))], step, "one cache")
		q.do(t, every[r.Intn(len(every))], step+1, "the other cache")
		p.same(t, "one cache")
		q.same(t, "the other cache")
	}
}

// TestNobody: of a cache that nobody made each call does nothing.
func TestNobody(t *testing.T) {
	for _, c := range []*cache.Cache{nil, {}, new(cache.Cache)} {
		for _, i := range []uint32{0, 1, 5, 65535, 65536, math.MaxUint32} {
			if err := c.Pin(i); err != api.ErrNil {
				t.Errorf("Pin(%d) = %d", i, err)
			}
			if err := c.Fresh(i); err != api.ErrNil {
				t.Errorf("Fresh(%d) = %d", i, err)
			}
			if err := c.Unpin(i); err != api.ErrNil {
				t.Errorf("Unpin(%d) = %d", i, err)
			}
			if b, err := c.Read(i); len(b) != 0 || err != api.ErrNil {
				t.Errorf("Read(%d) = %v, %d", i, b, err)
			}
			for _, b := range [][]byte{nil, {}, {1}} {
				if err := c.Write(i, b); err != api.ErrNil {
					t.Errorf("Write(%d) = %d", i, err)
				}
			}
			if err := c.Drop(i); err != api.ErrNil {
				t.Errorf("Drop(%d) = %d", i, err)
			}
			if c.Pins(i) != 0 {
				t.Errorf("Pins(%d) = %d", i, c.Pins(i))
			}
		}
		if err := c.Flush(); err != api.ErrNil {
			t.Errorf("Flush = %d", err)
		}
		if len(c.Dirty()) != 0 || len(c.Row()) != 0 || c.Used() != 0 {
			t.Errorf("Dirty %v, Row %v, Used %d", c.Dirty(), c.Row(), c.Used())
		}
	}
}
