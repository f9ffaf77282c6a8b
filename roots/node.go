package roots

import (
	"iter"
	"strings"

	"gleaner/api"
)

// node is a root with the lesser names on its left and the greater ones on its right; a nil one is a tree without roots.
// It is never written to again: versions share it.
type node struct {
	root        api.Root
	size        int // roots in it and below it
	left, right *node
}

// A side may be so many times as heavy as the other; a heavy one is turned in one move, if its inner side is so light against its outer one.
// With these two numbers every tree that one root is put into or taken out of comes out in balance.
const (
	skew  = 3
	light = 2
)

// made is a new node over two sides that are in balance.
func made(root api.Root, left, right *node) *node {
	return &node{root: root, size: left.count() + 1 + right.count(), left: left, right: right}
}

func (n *node) count() int {
	if n == nil {
		return 0
	}
	return n.size
}

// weight is above nought for a nil node too, so that sides can be held against one another by a factor.
func (n *node) weight() int { return n.count() + 1 }

// balanced is a new node over two sides, one of which may have become too heavy by one root:
// paths stay short, and with them what a change has to make anew.
func balanced(root api.Root, left, right *node) *node {
	switch {
	case right.weight() > skew*left.weight():
		return leftward(root, left, right)
	case left.weight() > skew*right.weight():
		return rightward(root, left, right)
	}
	return made(root, left, right)
}

// leftward takes weight off the right side.
func leftward(root api.Root, left, right *node) *node {
	inner := right.left
	if inner.weight() < light*right.right.weight() {
		return made(right.root, made(root, left, inner), right.right)
	}
	return made(inner.root, made(root, left, inner.left), made(right.root, inner.right, right.right))
}

// rightward takes weight off the left side.
func rightward(root api.Root, left, right *node) *node {
	inner := left.right
	if inner.weight() < light*left.left.weight() {
		return made(left.root, left.left, made(root, inner, right))
	}
	return made(inner.root, made(left.root, left.left, inner.left), made(root, inner.right, right))
}

// grown is a tree of roots whose names rise.
func grown(list []api.Root) *node {
	if len(list) == 0 {
		return nil
	}
	mid := len(list) / 2
	return made(owned(list[mid]), grown(list[:mid]), grown(list[mid+1:]))
}

// owned is a root that keeps no more than its name: the one that is handed in may be a piece of a long text.
func owned(root api.Root) api.Root {
	root.Name = strings.Clone(root.Name)
	return root
}

// find is the node of a name, or nil.
func (n *node) find(name string) *node {
	for n != nil && n.root.Name != name {
		if name < n.root.Name {
			n = n.left
		} else {
			n = n.right
		}
	}
	return n
}

// above is the node with the least name above another one, or, if any, of all; or nil.
func (n *node) above(after string, any bool) *node {
	var best *node
	for n != nil {
		if any || n.root.Name > after {
			best, n = n, n.left
		} else {
			n = n.right
		}
	}
	return best
}

// with is the tree in which this root stands, alone of its name.
func (n *node) with(root api.Root) *node {
	switch {
	case n == nil:
		return made(root, nil, nil)
	case root.Name < n.root.Name:
		return balanced(n.root, n.left.with(root), n.right)
	case root.Name > n.root.Name:
		return balanced(n.root, n.left, n.right.with(root))
	}
	return made(root, n.left, n.right)
}

// without is the tree in which no root of this name, which is in it, stands.
func (n *node) without(name string) *node {
	switch {
	case name < n.root.Name:
		return balanced(n.root, n.left.without(name), n.right)
	case name > n.root.Name:
		return balanced(n.root, n.left, n.right.without(name))
	case n.right == nil:
		return n.left
	}
	next := n.right.above("", true).root
	return balanced(next, n.left, n.right.without(next.Name))
}

// all tells the roots by name.
func (n *node) all() iter.Seq[api.Root] {
	return func(yield func(api.Root) bool) { n.tell(yield) }
}

// tell goes on until it is told to stop, and says whether it was not.
func (n *node) tell(yield func(api.Root) bool) bool {
	return n == nil || n.left.tell(yield) && yield(n.root) && n.right.tell(yield)
}
