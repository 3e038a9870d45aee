package conf_test

import (
	"math"
	"math/rand"
	"testing"

	"sluicegate/api"
	"sluicegate/conf"
)

// example is the chapter's settings, with a device and a cache as small as may be.
func example() api.Config {
	return api.Config{Blocks: 5, Bytes: 173, Frames: 8, Fan: 8, Buffer: 16, Leaf: 16, Key: 2, Val: 1}
}

// roomy is settings each of whose numbers may be one less, and one more.
func roomy() api.Config {
	return api.Config{Blocks: 1000, Bytes: 20000, Frames: 20, Fan: 16, Buffer: 100, Leaf: 200, Key: 20, Val: 40}
}

// greatest is settings each of whose numbers, but for Bytes, is as great as may be.
func greatest() api.Config {
	return api.Config{Blocks: 65536, Bytes: 65536, Frames: 64, Fan: 64, Buffer: 512, Leaf: 1024, Key: 64, Val: 256}
}

// shape is settings with a right device and cache, and Bytes 0.
func shape(fan, buffer, leaf, key, val int) api.Config {
	return api.Config{Blocks: 5, Frames: 8, Fan: fan, Buffer: buffer, Leaf: leaf, Key: key, Val: val}
}

// field is one of a settings' numbers.
type field struct {
	name string
	at   func(c *api.Config) *int
	// least and most are its limits in settings that have these others.
	least, most func(c api.Config) int
}

// limit is a limit that hangs on nothing.
func limit(n int) func(api.Config) int {
	return func(api.Config) int { return n }
}

// shaping are the fields that say what a node may have, in the order of the words.
func shaping() []field {
	return []field{
		{"Fan", func(c *api.Config) *int { return &c.Fan }, limit(8), limit(64)},
		{"Buffer", func(c *api.Config) *int { return &c.Buffer }, func(c api.Config) int { return 2 * c.Fan }, limit(512)},
		{"Leaf", func(c *api.Config) *int { return &c.Leaf }, func(c api.Config) int { return c.Buffer }, limit(1024)},
		{"Key", func(c *api.Config) *int { return &c.Key }, limit(1), limit(64)},
		{"Val", func(c *api.Config) *int { return &c.Val }, limit(0), limit(256)},
	}
}

// others are the fields that have no part in what a node may have.
func others() []field {
	return []field{
		{"Blocks", func(c *api.Config) *int { return &c.Blocks }, limit(5), limit(65536)},
		{"Bytes", func(c *api.Config) *int { return &c.Bytes }, needed, limit(65536)},
		{"Frames", func(c *api.Config) *int { return &c.Frames }, limit(8), limit(64)},
	}
}

// fields are all of a settings' numbers.
func fields() []field {
	return append(others(), shaping()...)
}

// with is settings with another number in a field.
func with(c api.Config, f field, n int) api.Config {
	*f.at(&c) = n
	return c
}

// inner is what a node that is no leaf needs, part by part.
func inner(c api.Config) int {
	n := 8
	for range c.Fan {
		n += 4
	}
	for range c.Fan - 1 {
		n += 1 + c.Key
	}
	for range c.Buffer {
		n += 4 + c.Key + c.Val
	}
	return n
}

// outer is what a leaf needs, part by part.
func outer(c api.Config) int {
	n := 8
	for range c.Leaf {
		n += 3 + c.Key + c.Val
	}
	return n
}

// needed is the fewest bytes of a block.
func needed(c api.Config) int {
	return max(64, inner(c), outer(c))
}

// move is the least number that, 2 times Fan times, is no less than Buffer.
func move(c api.Config) int {
	n := 0
	for n*2*c.Fan < c.Buffer {
		n++
	}
	return n
}

// holds tells whether a field is within its limits.
func holds(f field, c api.Config) bool {
	n := *f.at(&c)
	return n >= f.least(c) && n <= f.most(c)
}

// all tells whether all of some fields are, none of which is asked behind one that is not.
func all(l []field, c api.Config) bool {
	for _, f := range l {
		if !holds(f, c) {
			return false
		}
	}
	return true
}

// held holds all that the package tells of settings against the words.
func held(t *testing.T, c api.Config) {
	t.Helper()
	wantInner, wantOuter, wantMove, wantLeast, wantErr := 0, 0, 0, c, api.ErrArg
	if all(shaping(), c) {
		wantInner, wantOuter, wantMove = inner(c), outer(c), move(c)
		wantLeast.Bytes = needed(c)
		if all(others(), c) {
			wantErr = api.OK
		}
	}
	if got := conf.Inner(c); got != wantInner {
		t.Errorf("Inner(%+v) = %d, not %d", c, got, wantInner)
	}
	if got := conf.Outer(c); got != wantOuter {
		t.Errorf("Outer(%+v) = %d, not %d", c, got, wantOuter)
	}
	if got := conf.Move(c); got != wantMove {
		t.Errorf("Move(%+v) = %d, not %d", c, got, wantMove)
	}
	if got := conf.Least(c); got != wantLeast {
		t.Errorf("Least(%+v) = %+v, not %+v", c, got, wantLeast)
	}
	if got := conf.Check(c); got != wantErr {
		t.Errorf("Check(%+v) = %d, not %d", c, got, wantErr)
	}
	if !conf.Same(c, c) {
		t.Errorf("Same(%+v) with itself = false", c)
	}
}

// edges are the numbers at both sides of two limits, and some far off.
func edges(least, most int) []int {
	return []int{
		least - 2, least - 1, least, least + 1, (least + most) / 2, most - 1, most, most + 1, most + 2, 2 * most,
		0, 1, -1, -least, -most, math.MinInt, math.MinInt + 1, math.MaxInt - 1, math.MaxInt, math.MaxInt/2 + 1, math.MinInt32, math.MaxInt32,
	}
}

func TestExample(t *testing.T) {
	c := example()
	if conf.Inner(c) != 173 || conf.Outer(c) != 104 || conf.Move(c) != 1 || conf.Least(c) != c || conf.Check(c) != api.OK {
		t.Error(conf.Inner(c), conf.Outer(c), conf.Move(c), conf.Least(c), conf.Check(c))
	}
	if conf.Head != 64 {
		t.Error(conf.Head)
	}
	// Head is a number of no type of its own.
	var wide uint8 = conf.Head
	if wide != 64 {
		t.Error(wide)
	}
}

func TestBytesOfNodes(t *testing.T) {
	for _, x := range []struct {
		c                  api.Config
		inner, outer, move int
	}{
		{shape(8, 16, 16, 2, 1), 173, 104, 1},
		{shape(8, 16, 16, 1, 0), 8 + 32 + 14 + 80, 8 + 64, 1},
		{shape(8, 17, 17, 1, 0), 8 + 32 + 14 + 85, 8 + 68, 2},
		{shape(8, 32, 32, 1, 0), 8 + 32 + 14 + 160, 8 + 128, 2},
		{shape(8, 33, 40, 3, 5), 8 + 32 + 28 + 396, 8 + 440, 3},
		{shape(8, 512, 1024, 64, 256), 8 + 32 + 455 + 165888, 8 + 330752, 32},
		{shape(16, 100, 200, 20, 40), 8 + 64 + 315 + 6400, 8 + 12600, 4},
		{shape(63, 126, 126, 10, 0), 8 + 252 + 682 + 1764, 8 + 1638, 1},
		{shape(63, 127, 500, 10, 0), 8 + 252 + 682 + 1778, 8 + 6500, 2},
		{shape(64, 128, 128, 1, 256), 8 + 256 + 126 + 33408, 8 + 33280, 1},
		{shape(64, 512, 512, 1, 0), 8 + 256 + 126 + 2560, 8 + 2048, 4},
		{shape(64, 512, 1024, 64, 256), 8 + 256 + 4095 + 165888, 8 + 330752, 4},
		{shape(64, 511, 1024, 64, 0), 8 + 256 + 4095 + 34748, 8 + 68608, 4},
		{shape(64, 384, 1024, 1, 1), 8 + 256 + 126 + 2304, 8 + 5120, 3},
		{shape(64, 385, 1024, 1, 1), 8 + 256 + 126 + 2310, 8 + 5120, 4},
	} {
		if got := conf.Inner(x.c); got != x.inner {
			t.Errorf("Inner(%+v) = %d, not %d", x.c, got, x.inner)
		}
		if got := conf.Outer(x.c); got != x.outer {
			t.Errorf("Outer(%+v) = %d, not %d", x.c, got, x.outer)
		}
		if got := conf.Move(x.c); got != x.move {
			t.Errorf("Move(%+v) = %d, not %d", x.c, got, x.move)
		}
		least := x.c
		least.Bytes = max(x.inner, x.outer)
		if got := conf.Least(x.c); got != least {
			t.Errorf("Least(%+v) = %+v, not %+v", x.c, got, least)
		}
		held(t, x.c)
		held(t, least)
	}
}

func TestEachFieldAtItsLimits(t *testing.T) {
	starts := []api.Config{
		example(), roomy(), greatest(), {},
		conf.Least(shape(8, 512, 512, 1, 0)), conf.Least(shape(64, 128, 128, 64, 0)), conf.Least(shape(8, 16, 1024, 1, 0)),
		{Blocks: 65536, Bytes: 65536, Frames: 64, Fan: 64, Buffer: 512, Leaf: 1024, Key: 30, Val: 30},
		{Blocks: 5, Bytes: 65536, Frames: 8, Fan: 8, Buffer: 16, Leaf: 16, Key: 64, Val: 256},
	}
	for _, c := range starts {
		held(t, c)
		for _, f := range fields() {
			for _, n := range edges(f.least(c), f.most(c)) {
				held(t, with(c, f, n))
			}
		}
	}
}

func TestTwoFieldsAtTheirLimits(t *testing.T) {
	for _, c := range []api.Config{example(), roomy()} {
		for i, f := range fields() {
			for _, g := range fields()[i+1:] {
				for _, n := range edges(f.least(c), f.most(c)) {
					for _, m := range edges(g.least(c), g.most(c)) {
						held(t, with(with(c, f, n), g, m))
					}
				}
			}
		}
	}
}

// What is wrong with the device, the cache or the bytes of a block changes nothing that a node needs.
func TestWrongElsewhere(t *testing.T) {
	for _, n := range []int{math.MinInt, -1, 0, 1, 4, 7, 65, 65537, math.MaxInt} {
		c := example()
		c.Blocks, c.Bytes, c.Frames = n, n, n
		if conf.Inner(c) != 173 || conf.Outer(c) != 104 || conf.Move(c) != 1 || conf.Check(c) != api.ErrArg {
			t.Errorf("%+v: %d %d %d %d", c, conf.Inner(c), conf.Outer(c), conf.Move(c), conf.Check(c))
		}
		least := c
		least.Bytes = 173
		if got := conf.Least(c); got != least {
			t.Errorf("Least(%+v) = %+v, not %+v", c, got, least)
		}
	}
}

// Each of the settings that a node hangs on is wrong once: there is nothing then, and Bytes stay as they are.
func TestWrongShape(t *testing.T) {
	for _, f := range shaping() {
		for _, c := range []api.Config{example(), roomy()} {
			for _, n := range []int{f.least(c) - 1, f.most(c) + 1, math.MinInt, math.MaxInt} {
				for _, b := range []int{math.MinInt, -1, 0, 1, 64, 173, 65536, 65537, math.MaxInt} {
					w := with(c, f, n)
					w.Bytes = b
					if conf.Inner(w) != 0 || conf.Outer(w) != 0 || conf.Move(w) != 0 || conf.Least(w) != w || conf.Check(w) != api.ErrArg {
						t.Errorf("%s: %+v: %d %d %d %+v %d", f.name, w, conf.Inner(w), conf.Outer(w), conf.Move(w), conf.Least(w), conf.Check(w))
					}
				}
			}
		}
	}
}

func TestBytesAtTheirLimits(t *testing.T) {
	for _, x := range []struct {
		c     api.Config
		least int
	}{
		// What a node that is no leaf needs is more than a leaf does, or less.
		{shape(8, 16, 16, 2, 1), 173}, {shape(8, 16, 1024, 1, 0), 4104},
		// Just as many as may be, and one more.
		{shape(8, 204, 204, 59, 256), 65536}, {shape(8, 16, 253, 56, 200), 65535},
		{shape(8, 212, 212, 58, 245), 65537}, {shape(8, 16, 809, 64, 14), 65537},
		{shape(64, 512, 512, 64, 256), 170247}, {shape(64, 512, 1024, 64, 256), 330760},
	} {
		for _, b := range []int{math.MinInt, -1, 0, 1, 63, 64, 65, x.least - 1, x.least, x.least + 1, 65535, 65536, 65537, math.MaxInt} {
			c := x.c
			c.Bytes = b
			want := api.ErrArg
			if b >= x.least && b <= 65536 {
				want = api.OK
			}
			if got := conf.Check(c); got != want {
				t.Errorf("Check(%+v) = %d, not %d", c, got, want)
			}
			if got := conf.Least(c).Bytes; got != x.least {
				t.Errorf("Least(%+v) has %d bytes, not %d", c, got, x.least)
			}
		}
	}
}

// few holds P9.4 of settings whose shape is right.
func few(t *testing.T, c api.Config) {
	t.Helper()
	m := conf.Move(c)
	half := float64(c.Buffer) / 2
	if m < 1 || m > c.Buffer || float64(c.Fan*m) < half || float64(c.Fan*m) >= half+float64(c.Fan) {
		t.Errorf("Move(%+v) = %d", c, m)
	}
}

func TestFewMove(t *testing.T) {
	for fan := 8; fan <= 64; fan++ {
		for buffer := 2 * fan; buffer <= 512; buffer++ {
			for _, leaf := range []int{buffer, 1024} {
				c := shape(fan, buffer, leaf, 1+fan, buffer/2)
				if c.Key > 64 {
					c.Key = 64
				}
				few(t, c)
				held(t, c)
			}
		}
	}
}

func TestManySettings(t *testing.T) {
	r := rand.New(rand.NewSource(9))
	right := 0
	for range 60000 {
		c := api.Config{Blocks: 5 + r.Intn(65532), Frames: 8 + r.Intn(57), Fan: 8 + r.Intn(57), Key: 1 + r.Intn(64), Val: r.Intn(257)}
		c.Buffer = 2*c.Fan + r.Intn(513-2*c.Fan)
		c.Leaf = c.Buffer + r.Intn(1025-c.Buffer)
		c.Bytes = r.Intn(70000)
		few(t, c)
		least := conf.Least(c)
		if conf.Least(least) != least || least.Bytes < 64 || least.Bytes < conf.Inner(c) || least.Bytes < conf.Outer(c) {
			t.Fatalf("Least(%+v) = %+v", c, least)
		}
		if conf.Check(least) == api.OK {
			right++
			less := least
			less.Bytes--
			if conf.Check(less) != api.ErrArg {
				t.Fatalf("Check(%+v) = %d", less, conf.Check(less))
			}
		}
		held(t, c)
		held(t, least)
		f := fields()[r.Intn(8)]
		held(t, with(c, f, r.Intn(1400)-200))
	}
	if right < 1000 || right > 59000 {
		t.Errorf("%d of the settings were right", right)
	}
}

func TestSame(t *testing.T) {
	starts := []api.Config{example(), roomy(), greatest(), {}, {Blocks: -1, Bytes: math.MinInt, Frames: math.MaxInt}}
	for i, a := range starts {
		for j, b := range starts {
			if got := conf.Same(a, b); got != (i == j) {
				t.Errorf("Same(%+v, %+v) = %v", a, b, got)
			}
		}
		for _, f := range fields() {
			for _, by := range []int{1, -1, 1 << 8, 1 << 16, math.MinInt} {
				b := a
				*f.at(&b) += by
				if conf.Same(a, b) || conf.Same(b, a) {
					t.Errorf("%s: Same(%+v, %+v) = true", f.name, a, b)
				}
			}
		}
	}
}

// Numbers that change places are other settings, though they come to the same together.
func TestSameAsksEachFieldByItself(t *testing.T) {
	c := api.Config{Blocks: 1, Bytes: 2, Frames: 3, Fan: 4, Buffer: 5, Leaf: 6, Key: 7, Val: 8}
	for i, f := range fields() {
		for _, g := range fields()[i+1:] {
			d := c
			*f.at(&d), *g.at(&d) = *g.at(&d), *f.at(&d)
			if conf.Same(c, d) || conf.Same(d, c) {
				t.Errorf("Same of settings whose %s and %s changed places = true", f.name, g.name)
			}
		}
	}
}
