package walk_test

import (
	"math"
	"math/big"
	"math/rand"
	"testing"

	"sluicegate/api"
	"sluicegate/conf"
	"sluicegate/walk"
)

// P20.3, reckoned by hand.
func TestLeast(t *testing.T) {
	of := func(fan, buffer, leaf int) api.Config {
		return conf.Least(api.Config{Blocks: 5, Frames: 8, Fan: fan, Buffer: buffer, Leaf: leaf, Key: 1, Val: 0})
	}
	for _, x := range []struct {
		c            api.Config
		height, want int
	}{
		{some, math.MinInt, 0}, {some, -1, 0}, {some, 0, 0}, {some, 1, 0},
		{some, 2, 4}, {some, 3, 16}, {some, 4, 64}, {some, 5, 256},
		{some, 20, 1 << 38}, {some, 21, 1 << 40}, {some, 22, 1 << 40}, {some, 41, 1 << 40}, {some, 42, 1 << 40}, {some, math.MaxInt, 1 << 40},
		{odd, 1, 0}, {odd, 2, 9}, {odd, 3, 45}, {odd, 4, 225}, {odd, 5, 1125},
		{odd, 17, 274658203125}, {odd, 18, 1 << 40}, {odd, 41, 1 << 40}, {odd, math.MaxInt, 1 << 40},
		{many, 1, 0}, {many, 2, 256}, {many, 3, 8192}, {many, 8, 1 << 38}, {many, 9, 1 << 40}, {many, 10, 1 << 40}, {many, math.MaxInt, 1 << 40},
		{of(9, 18, 18), 2, 4}, {of(9, 18, 19), 3, 16}, {of(9, 18, 20), 2, 5}, {of(9, 18, 23), 3, 20}, {of(9, 18, 24), 3, 24},
		{of(63, 126, 127), 2, 31}, {of(63, 126, 127), 3, 961}, {of(63, 126, 127), 4, 29791},
		{of(64, 512, 1023), 2, 255}, {of(64, 512, 1023), 9, 1 << 40}, {of(64, 512, 1023), 8, 255 << 30},
	} {
		if got := walk.Least(x.c, x.height); got != x.want {
			t.Errorf("Least(%+v, %d) = %d, not %d", x.c, x.height, got, x.want)
		}
	}
}

// least is what the words ask of right settings and a height of 2 at least, with numbers of any size.
func least(c api.Config, height int) int {
	n := big.NewInt(int64(c.Leaf / 4))
	for range height - 2 {
		n.Mul(n, big.NewInt(int64(c.Fan/2)))
	}
	if most := big.NewInt(1 << 40); n.Cmp(most) > 0 {
		n = most
	}
	return int(n.Int64())
}

// P20.3: all Fans and heights, with all Leafs of some of them.
func TestLeastOfAll(t *testing.T) {
	r := rand.New(rand.NewSource(30))
	for fan := api.MinFan; fan <= api.MaxFan; fan++ {
		for range 40 {
			buffer := 2*fan + r.Intn(api.MaxBuffer-2*fan+1)
			c := conf.Least(api.Config{Blocks: 5 + r.Intn(100), Frames: 8 + r.Intn(57), Fan: fan, Buffer: buffer,
				Leaf: buffer + r.Intn(api.MaxLeaf-buffer+1), Key: 1 + r.Intn(9), Val: r.Intn(9)})
			for height := 2; height < 60; height++ {
				if got, want := walk.Least(c, height), least(c, height); got != want {
					t.Fatalf("Least(%+v, %d) = %d, not %d", c, height, got, want)
				}
			}
		}
	}
	for leaf := 16; leaf <= api.MaxLeaf; leaf++ {
		c := conf.Least(api.Config{Blocks: 5, Frames: 8, Fan: 8, Buffer: 16, Leaf: leaf, Key: 1})
		for height := 2; height < 30; height++ {
			if got, want := walk.Least(c, height), least(c, height); got != want {
				t.Fatalf("Least(%+v, %d) = %d, not %d", c, height, got, want)
			}
		}
	}
}

// P20.3: of settings that are not right there is none, whichever number it is.
func TestLeastOfWrongSettings(t *testing.T) {
	heights := []int{math.MinInt, -1, 0, 1, 2, 3, 41, math.MaxInt}
	for _, right := range settings() {
		for _, n := range []int{math.MinInt, -8, -1, 0, 1, 2, 7, 8, 15, 16, 65, 257, 513, 1025, 65536, 65537, math.MaxInt} {
			for at := range 8 {
				c := right
				*[]*int{&c.Blocks, &c.Bytes, &c.Frames, &c.Fan, &c.Buffer, &c.Leaf, &c.Key, &c.Val}[at] = n
				for _, height := range heights {
					want := 0
					if conf.Check(c) == api.OK && height >= 2 {
						want = least(c, min(height, 60))
					}
					if got := walk.Least(c, height); got != want {
						t.Fatalf("Least(%+v, %d) = %d, not %d", c, height, got, want)
					}
				}
			}
		}
	}
	for _, height := range heights {
		if got := walk.Least(api.Config{}, height); got != 0 {
			t.Errorf("Least of no settings, %d = %d", height, got)
		}
	}
}
