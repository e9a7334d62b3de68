// Package beads has a tree's nodes, gone over in the order of its beads. The layers that look for the first node that is wrong share it.
package beads

import (
	"iter"

	"joinery/node"
)

// Once goes over a tree's nodes in the order of its beads, each at its first place: a tree in which nodes stand often may have far more places than could be gone over, and of a node that was not wrong there is nothing to be told again, nor of what is below it, so that its size tells where one goes on. What is still to be gone over is kept in a list: a tree may be as deep as it has nodes, too deep for calls within calls.
func Once(t *node.Node) iter.Seq2[int, *node.Node] {
	return func(yield func(place int, n *node.Node) bool) {
		place := 0
		been := map[*node.Node]bool{nil: true}
		open := []*node.Node{t}
		for len(open) > 0 {
			last := len(open) - 1
			n := open[last]
			open = open[:last]
			if been[n] {
				place += n.Size()
				continue
			}
			been[n] = true
			if !yield(place, n) {
				return
			}
			place++
			open = append(open, n.Right(), n.Left())
		}
	}
}
