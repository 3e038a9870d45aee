package code

import (
	"sluicegate/api"
	"sluicegate/word"
)

// writer is a block that is written from the front on.
type writer struct {
	c     api.Config
	block []byte
}

// write is the block of a node that is right.
func write(c api.Config, n api.Node) []byte {
	w := &writer{c: c, block: make([]byte, 0, c.Bytes)}
	if n.Level == 0 {
		w.top(n.Level, len(n.Pairs), 0)
		w.pairs(n.Pairs)
	} else {
		w.top(n.Level, len(n.Kids), len(n.Buf))
		w.kids(n.Kids)
		w.pivots(n.Pivots)
		w.messages(n.Buf)
	}
	w.zeros(c.Bytes - len(w.block))
	return w.block
}

// top writes what each block begins with.
func (w *writer) top(level, parts, messages int) {
	w.num(1, nodeMark(level))
	w.num(1, level)
	w.num(2, parts)
	w.num(2, messages)
	w.zeros(2)
}

// pairs writes a slot for each pair.
func (w *writer) pairs(l []api.Pair) {
	for _, p := range l {
		w.num(1, len(p.Key))
		w.num(2, len(p.Val))
		w.text(p.Key, w.c.Key)
		w.text(p.Val, w.c.Val)
	}
}

// kids writes four bytes for each kid that there may be.
func (w *writer) kids(l []uint32) {
	for _, kid := range l {
		w.num(4, int(kid))
	}
	w.zeros(4 * (w.c.Fan - len(l)))
}

// pivots writes a slot for each pivot that there may be.
func (w *writer) pivots(l []string) {
	for _, pivot := range l {
		w.num(1, len(pivot))
		w.text(pivot, w.c.Key)
	}
	w.zeros((1 + w.c.Key) * (w.c.Fan - 1 - len(l)))
}

// messages writes a slot for each message.
func (w *writer) messages(l []api.Msg) {
	for _, m := range l {
		w.num(1, messageMark(m.Del))
		w.num(1, len(m.Key))
		w.num(2, len(m.Val))
		w.text(m.Key, w.c.Key)
		w.text(m.Val, w.c.Val)
	}
}

// num writes a number of that width.
func (w *writer) num(width, v int) {
	// Put copies what it puts something behind: so it gets nothing, not all of the block once more for each number.
	w.block = append(w.block, word.Put(nil, width, uint64(v))...)
}

// text writes a text, and bytes 0 up to the most that one may have.
func (w *writer) text(s string, most int) {
	w.block = append(w.block, s...)
	w.zeros(most - len(s))
}

// zeros writes bytes 0.
func (w *writer) zeros(n int) {
	w.block = append(w.block, make([]byte, n)...)
}
