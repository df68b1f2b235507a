package length

import (
	"cmp"
	"container/heap"

	"cheesepress/api"
)

// node is a node of the tree of counts. A leaf has none below it.
type node struct {
	count       int
	rank        int // which one of equal counts comes first: that of a leaf is its symbol
	left, right *node
}

// keys are what the order of nodes depends on, the most important one first.
func (n node) keys() [2]int {
	return [2]int{n.count, n.rank}
}

// before tells whether keys come before others: the first ones that differ decide.
func before[K cmp.Ordered](a, b [2]K) bool {
	return cmp.Or(cmp.Compare(a[0], b[0]), cmp.Compare(a[1], b[1])) < 0
}

// waiting are the nodes that are not joined yet, as a heap.
type waiting []node

func (w waiting) Len() int           { return len(w) }
func (w waiting) Less(i, j int) bool { return before(w[i].keys(), w[j].keys()) }
func (w waiting) Swap(i, j int)      { w[i], w[j] = w[j], w[i] }
func (w *waiting) Push(x any)        { *w = append(*w, x.(node)) }

// Pop takes off the last node, where the heap has put the one that it wants to have out.
func (w *waiting) Pop() any {
	last := len(*w) - 1
	n := (*w)[last]
	*w = (*w)[:last]
	return n
}

// next takes out the node that comes first.
func (w *waiting) next() *node {
	n := heap.Pop(w).(node)
	return &n
}

// rootOf returns the root of the tree of counts, of which one at least is not 0.
func rootOf(counts []int) *node {
	var w waiting
	for symbol, count := range counts {
		if count > 0 {
			w = append(w, node{count: count, rank: symbol})
		}
	}
	heap.Init(&w)
	// The ranks of joined nodes are behind those of all leaves.
	for rank := api.MaxSymbols; len(w) > 1; rank++ {
		left, right := w.next(), w.next()
		heap.Push(&w, node{count: left.count + right.count, rank: rank, left: left, right: right})
	}
	return w.next()
}

// depthsOf returns the depths of the leaves of the tree of counts, and 0 for each symbol without a leaf.
func depthsOf(counts []int) []int {
	depths := make([]int, len(counts))
	var walk func(n *node, depth int)
	walk = func(n *node, depth int) {
		if n.left == nil {
			depths[n.rank] = depth
			return
		}
		walk(n.left, depth+1)
		walk(n.right, depth+1)
	}
	walk(rootOf(counts), 0)
	return depths
}
