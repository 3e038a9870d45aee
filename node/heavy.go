package node

import (
	"container/heap"

	"sluicegate/api"
)

// weight is a kid's place, and its load.
type weight struct {
	kid, load int
}

// heavy is a heap of kids: the heaviest one is on top, of alike ones that of the lower place.
type heavy []weight

// Len, Less, Swap, Push and Pop are what container/heap asks for.
func (h heavy) Len() int { return len(h) }

func (h heavy) Less(i, j int) bool {
	if h[i].load != h[j].load {
		return h[i].load > h[j].load
	}
	return h[i].kid < h[j].kid
}

func (h heavy) Swap(i, j int) { h[i], h[j] = h[j], h[i] }

func (h *heavy) Push(x any) {
	if w, ok := x.(weight); ok {
		*h = append(*h, w)
	}
}

func (h *heavy) Pop() any {
	last := len(*h) - 1
	w := (*h)[last]
	*h = (*h)[:last]
	return w
}

// top takes the heaviest kid out of the heap.
func (h *heavy) top() weight {
	w, _ := heap.Pop(h).(weight)
	return w
}

// weigh is a heap of all kids of a node.
func weigh(n api.Node) *heavy {
	all := &heavy{}
	for kid, load := range Loads(n) {
		heap.Push(all, weight{kid, load})
	}
	return all
}
