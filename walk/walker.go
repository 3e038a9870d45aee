package walk

import (
	"slices"

	"sluicegate/api"
	"sluicegate/fan"
	"sluicegate/lex"
	"sluicegate/node"
	"sluicegate/shelf"
)

// anyLevel is of a place whose node may have any Level: the root's.
const anyLevel = -1

// place is a block whose node must have that Level, and be right for that span.
type place struct {
	block uint32
	level int
	span  api.Span
}

// walker goes through a tree, and tells its nodes.
type walker struct {
	shelf *shelf.Shelf
	on    func(i uint32, n api.Node, s api.Span) bool
	// met has the blocks that were loaded: none of them is once more.
	met map[uint32]bool
	// todo is the places that are known, and not yet met, the next one at the end.
	todo []place
}

// newWalker is a walker that has met nothing yet.
func newWalker(s *shelf.Shelf, on func(i uint32, n api.Node, s api.Span) bool) *walker {
	return &walker{shelf: s, on: on, met: make(map[uint32]bool)}
}

// from goes through all of a root's tree, or up to what shows that it is not sound, or till no more is asked.
func (w *walker) from(root uint32) api.Errno {
	w.todo = []place{{root, anyLevel, lex.All()}}
	for len(w.todo) > 0 {
		p := w.next()
		n, err := w.meet(p)
		if err != api.OK {
			return err
		}
		// The kids come first: who is told the node may change it.
		w.add(n, p.span)
		if !w.on(p.block, n, p.span) {
			return api.OK
		}
	}
	return api.OK
}

// next takes the next place.
func (w *walker) next() place {
	last := len(w.todo) - 1
	p := w.todo[last]
	w.todo = w.todo[:last]
	return p
}

// meet is the node of a place, if a sound tree may have it there.
func (w *walker) meet(p place) (api.Node, api.Errno) {
	if w.met[p.block] {
		return api.Node{}, api.ErrCorrupt
	}
	w.met[p.block] = true
	n, err := w.shelf.Load(p.block)
	if err != api.OK {
		return api.Node{}, err
	}
	if p.level != anyLevel && n.Level != p.level || !node.Right(w.shelf.Config(), p.span, n) {
		return api.Node{}, api.ErrCorrupt
	}
	return n, api.OK
}

// add adds the places of a right node's kids, the first one as the next.
func (w *walker) add(n api.Node, s api.Span) {
	for at, kid := range slices.Backward(n.Kids) {
		// Pivots that are right for a span that has keys leave some to each kid.
		span, _ := fan.Span(n.Pivots, at, s)
		w.todo = append(w.todo, place{kid, n.Level - 1, span})
	}
}
