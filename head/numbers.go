package head

import (
	"sluicegate/api"
	"sluicegate/word"
)

// numbers are those of a head, in the order in which its block has them.
type numbers [10]uint32

// numbersOf are the numbers of a head that is right: of such a one, each has room.
func numbersOf(h Head) numbers {
	c := h.Config
	return numbers{
		uint32(c.Blocks), uint32(c.Bytes), uint32(c.Frames), uint32(c.Fan),
		uint32(c.Buffer), uint32(c.Leaf), uint32(c.Key), uint32(c.Val),
		h.Root, uint32(h.Height),
	}
}

// headOf is the head of those numbers, right or not.
func headOf(n numbers) Head {
	return Head{
		Config: api.Config{
			Blocks: int(n[0]), Bytes: int(n[1]), Frames: int(n[2]), Fan: int(n[3]),
			Buffer: int(n[4]), Leaf: int(n[5]), Key: int(n[6]), Val: int(n[7]),
		},
		Root:   n[8],
		Height: int(n[9]),
	}
}

// readNumbers reads a head's numbers.
func readNumbers(r *word.Reader) numbers {
	var l numbers
	for i := range l {
		l[i] = uint32(r.Num(width))
	}
	return l
}
