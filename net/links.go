package net

// nodes is how many nodes there are.
const nodes = 3

// links tells of each link, by the node that it leads from and the one that it leads to, whether it is cut.
type links [nodes][nodes]bool

// with tells the links when one of them is cut, or whole.
func (l links) with(from, to int, is bool) links {
	l[from][to] = is
	return l
}

// isLink tells whether a link leads from a number to another one.
func isLink(from, to int) bool { return isNode(from) && isNode(to) && from != to }

// isNode tells whether a number is a node's.
func isNode(node int) bool { return node >= 0 && node < nodes }
