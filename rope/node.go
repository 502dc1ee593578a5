package rope

import "strings"

// maxLeaf is how many bytes a leaf has at most.
const maxLeaf = 512

// node is a tree that holds a text: nil holds the empty one; a leaf holds some bytes; any other node holds what its left and then its right kid hold.
// A leaf begins and ends where a character of the whole text does, so that measures of leaves can be added up.
// The heights of two kids differ by one at most. A node is never changed once it is made, so that ropes can share it.
type node struct {
	left, right *node
	text        string
	height      int
	all         measure
}

// measured measures the text of a tree.
func (n *node) measured() measure {
	if n == nil {
		return measure{}
	}
	return n.all
}

// isLeaf tells whether a tree that is not nil is a leaf.
func (n *node) isLeaf() bool { return n.left == nil }

// build makes the tree of a text.
func build(text string) *node {
	if text == "" {
		return nil
	}
	if len(text) <= maxLeaf {
		return &node{text: text, all: measureOf(text)}
	}
	middle := beginOf(text, len(text)/2)
	return join(build(text[:middle]), build(text[middle:]))
}

// pair makes a node of two trees whose heights differ by one at most.
func pair(a, b *node) *node {
	return &node{left: a, right: b, height: max(a.height, b.height) + 1, all: a.all.plus(b.all)}
}

// join makes the tree of what a and then b hold; it is as high as the higher of them, or one higher.
func join(a, b *node) *node {
	switch {
	case a == nil:
		return b
	case b == nil:
		return a
	case a.height > b.height+1:
		return level(a.left, join(a.right, b))
	case b.height > a.height+1:
		return level(join(a, b.left), b.right)
	}
	return pair(a, b)
}

// level makes a node of two trees whose heights differ by two at most.
func level(a, b *node) *node {
	switch {
	case a.height > b.height+1 && a.left.height >= a.right.height:
		return pair(a.left, pair(a.right, b))
	case a.height > b.height+1:
		return pair(pair(a.left, a.right.left), pair(a.right.right, b))
	case b.height > a.height+1 && b.right.height >= b.left.height:
		return pair(pair(a, b.left), b.right)
	case b.height > a.height+1:
		return pair(pair(a, b.left.left), pair(b.left.right, b.right))
	}
	return pair(a, b)
}

// headOf gives what stands ahead of a place: the leaves that end ahead of it, as a tree, and the rest.
func headOf(n *node, at int) (*node, string) {
	if n == nil {
		return nil, ""
	}
	if n.isLeaf() {
		return nil, n.text[:at]
	}
	middle := n.left.all.bytes
	if at <= middle {
		return headOf(n.left, at)
	}
	leaves, rest := headOf(n.right, at-middle)
	return join(n.left, leaves), rest
}

// tailOf gives what stands behind a place: a rest, and the leaves that begin behind the place, as a tree.
func tailOf(n *node, at int) (string, *node) {
	if n == nil {
		return "", nil
	}
	if n.isLeaf() {
		return n.text[at:], nil
	}
	middle := n.left.all.bytes
	if at >= middle {
		return tailOf(n.right, at-middle)
	}
	rest, leaves := tailOf(n.left, at)
	return rest, join(leaves, n.right)
}

// write appends the bytes from from to ahead of to.
func write(b *strings.Builder, n *node, from, to int) {
	if from >= to {
		return
	}
	if n.isLeaf() {
		b.WriteString(n.text[from:to])
		return
	}
	middle := n.left.all.bytes
	write(b, n.left, from, min(to, middle))
	write(b, n.right, max(from, middle)-middle, to-middle)
}

// seek measures the longest beginning, made of whole characters, that fits.
// What does not fit must not fit either with more characters behind it.
func seek(n *node, fits func(measure) bool) measure {
	ahead := measure{}
	if n == nil {
		return ahead
	}
	for !n.isLeaf() {
		next := ahead.plus(n.left.all)
		if fits(next) {
			ahead = next
			n = n.right
		} else {
			n = n.left
		}
	}
	return longest(n.text, ahead, fits)
}
