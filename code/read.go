package code

import (
	"sluicegate/api"
	"sluicegate/word"
)

// reader is a block that is read from the front on; what can't be spoils in, which tells zeros from then on.
type reader struct {
	c  api.Config
	in *word.Reader
}

// read is the node that a block has, which may still be one that is not right; false: no node at all is written so.
func read(c api.Config, b []byte) (api.Node, bool) {
	if len(b) != c.Bytes {
		return api.Node{}, false
	}
	r := reader{c: c, in: word.Open(b)}
	n, ok := r.node()
	r.in.Zeros(r.in.Left())
	return n, ok && r.in.Err() == api.OK
}

// node reads what each block begins with, and the parts of which that tells.
func (r reader) node() (n api.Node, ok bool) {
	mark := r.num(1)
	n.Level = r.num(1)
	parts, messages := r.num(2), r.num(2)
	r.in.Zeros(2)
	if mark != nodeMark(n.Level) || !r.hasRoom(n.Level, parts, messages) {
		return n, false
	}
	if n.Level == 0 {
		n.Pairs = r.pairs(parts)
		return n, true
	}
	n.Kids = r.kids(parts)
	n.Pivots = r.pivots(parts - 1)
	n.Buf, ok = r.messages(messages)
	return n, ok
}

// hasRoom tells whether a block has room for so many parts, and as many as a node needs: else they aren't even to be looked for.
func (r reader) hasRoom(level, parts, messages int) bool {
	if level == 0 {
		return parts <= r.c.Leaf && messages == 0
	}
	return 1 <= parts && parts <= r.c.Fan && messages <= r.c.Buffer
}

// pairs reads the slots of so many pairs.
func (r reader) pairs(count int) []api.Pair {
	var l []api.Pair
	for range count {
		key, val := r.num(1), r.num(2)
		l = append(l, api.Pair{Key: r.in.Text(key, r.c.Key), Val: r.in.Text(val, r.c.Val)})
	}
	return l
}

// kids reads so many kids, and that there are no more.
func (r reader) kids(count int) []uint32 {
	var l []uint32
	for range count {
		l = append(l, uint32(r.in.Num(4)))
	}
	r.in.Zeros(4 * (r.c.Fan - count))
	return l
}

// pivots reads so many pivots, and that there are no more.
func (r reader) pivots(count int) []string {
	var l []string
	for range count {
		l = append(l, r.in.Text(r.num(1), r.c.Key))
	}
	r.in.Zeros((1 + r.c.Key) * (r.c.Fan - 1 - count))
	return l
}

// messages reads the slots of so many messages; false: one has no message's mark.
func (r reader) messages(count int) ([]api.Msg, bool) {
	var l []api.Msg
	for range count {
		mark, key, val := r.num(1), r.num(1), r.num(2)
		m := api.Msg{Key: r.in.Text(key, r.c.Key), Del: mark == delMark, Val: r.in.Text(val, r.c.Val)}
		if mark != messageMark(m.Del) {
			return nil, false
		}
		l = append(l, m)
	}
	return l, true
}

// num reads a number of that width, of two bytes at most.
func (r reader) num(width int) int {
	return int(r.in.Num(width))
}
