package dom

import (
	"slices"
	"strings"

	"topiary/api"
)

// Node is a node of a dom; it stays the one that it is, wherever it stands, till it is dropped.
type Node struct {
	key   api.Stamp
	tag   string
	text  string
	attrs []api.Attr // rising by names

	parent, first, last, prev, next *Node
}

// Key tells the node's key.
func (n *Node) Key() api.Stamp {
	if n == nil {
		return api.Stamp{}
	}
	return n.key
}

// Tag tells the node's tag.
func (n *Node) Tag() string {
	if n == nil {
		return ""
	}
	return n.tag
}

// Text tells the node's text.
func (n *Node) Text() string {
	if n == nil {
		return ""
	}
	return n.text
}

// Attr tells the value of the attribute of that name, and whether it is there.
func (n *Node) Attr(name string) (string, bool) {
	if n == nil {
		return "", false
	}
	at, isThere := n.attr(name)
	if !isThere {
		return "", false
	}
	return n.attrs[at].Value, true
}

// Attrs tells all attributes, rising by names.
func (n *Node) Attrs() []api.Attr {
	if n == nil {
		return nil
	}
	return slices.Clone(n.attrs)
}

// Parent tells the node above this one.
func (n *Node) Parent() *Node {
	if n == nil {
		return nil
	}
	return n.parent
}

// First tells the first kid.
func (n *Node) First() *Node {
	if n == nil {
		return nil
	}
	return n.first
}

// Last tells the last kid.
func (n *Node) Last() *Node {
	if n == nil {
		return nil
	}
	return n.last
}

// Prev tells the sibling ahead.
func (n *Node) Prev() *Node {
	if n == nil {
		return nil
	}
	return n.prev
}

// Next tells the sibling behind.
func (n *Node) Next() *Node {
	if n == nil {
		return nil
	}
	return n.next
}

// newNode tells a node with what t says of it itself, which points to nobody.
func newNode(t api.VNode) *Node {
	return &Node{key: t.Key, tag: t.Tag, text: t.Text, attrs: slices.Clone(t.Attrs)}
}

// tree tells n with all beneath it; of nil a zero tree.
func (n *Node) tree() api.VNode {
	if n == nil {
		return api.VNode{}
	}
	out := api.VNode{Key: n.key, Tag: n.tag, Text: n.text, Attrs: n.Attrs()}
	for kid := n.first; kid != nil; kid = kid.next {
		out.Kids = append(out.Kids, kid.tree())
	}
	return out
}

func (n *Node) link() api.Link {
	return api.Link{
		Key:    n.key,
		Parent: n.parent.Key(),
		First:  n.first.Key(),
		Last:   n.last.Key(),
		Prev:   n.prev.Key(),
		Next:   n.next.Key(),
		Top:    n.parent == nil,
	}
}

// behind tells the node that follows n in the tree's order; nil, if n is the last one.
func (n *Node) behind() *Node {
	if n.first != nil {
		return n.first
	}
	for n != nil && n.next == nil {
		n = n.parent
	}
	return n.Next()
}

// join lets n, which stands nowhere, stand beneath parent, right behind its kid prev (nil: ahead of all).
func (n *Node) join(parent, prev *Node) {
	next := parent.first
	if prev != nil {
		next = prev.next
	}
	n.parent, n.prev, n.next = parent, prev, next
	if prev == nil {
		parent.first = n
	} else {
		prev.next = n
	}
	if next == nil {
		parent.last = n
	} else {
		next.prev = n
	}
}

// leave lets n, which has a parent, stand nowhere, with all beneath it.
func (n *Node) leave() {
	if n.prev == nil {
		n.parent.first = n.next
	} else {
		n.prev.next = n.next
	}
	if n.next == nil {
		n.parent.last = n.prev
	} else {
		n.next.prev = n.prev
	}
	n.parent, n.prev, n.next = nil, nil, nil
}

// attr tells the place at which the attribute of that name stands, or would stand, and whether it is there.
func (n *Node) attr(name string) (int, bool) {
	return slices.BinarySearchFunc(n.attrs, name, func(a api.Attr, name string) int {
		return strings.Compare(a.Name, name)
	})
}
