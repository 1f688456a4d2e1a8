package patch

import (
	"slices"
	"strings"

	"topiary/api"
	"topiary/vtree"
)

// Apply tells what comes of a right tree by these steps, and how many they are; if one can't be done, its place, and why.
func Apply(t api.VNode, l []api.Patch) (api.VNode, int, api.Errno) {
	if e := vtree.Check(t); e != api.OK {
		return api.VNode{}, 0, e
	}
	w := begin(t)
	steps := w.steps()
	for at, p := range l {
		e := Check(p)
		if e == api.OK {
			e = steps[p.Kind](p)
		}
		if e != api.OK {
			return api.VNode{}, at, e
		}
	}
	if w.hand.first != nil {
		return api.VNode{}, len(l), api.ErrState
	}
	return w.top.tree(), len(l), api.OK
}

// work is a tree while it is changed, and what is held meanwhile.
type work struct {
	nodes map[api.Stamp]*node // all of them, by their keys: the tree's, those that are held, those beneath these
	top   *node
	hand  *node // no node itself: those that are held stand beneath it
}

// node is linked to its neighbours, so that it goes elsewhere, with all beneath it, however many there are.
type node struct {
	own               api.VNode // without kids
	above, prev, next *node
	first             *node // of its kids
}

func begin(t api.VNode) *work {
	w := &work{nodes: map[api.Stamp]*node{}, hand: &node{}}
	w.top = w.grow(t)
	return w
}

// grow tells the node of t, with all beneath it, in memory of its own.
func (w *work) grow(t api.VNode) *node {
	n := &node{own: api.VNode{Key: t.Key, Tag: t.Tag, Text: t.Text, Attrs: slices.Clone(t.Attrs)}}
	w.nodes[t.Key] = n
	var ahead *node
	for _, kid := range t.Kids {
		grown := w.grow(kid)
		grown.link(n, ahead)
		ahead = grown
	}
	return n
}

// tree tells n with all beneath it; it hands out n's own lists, of which nobody else knows.
func (n *node) tree() api.VNode {
	out := n.own
	for kid := n.first; kid != nil; kid = kid.next {
		out.Kids = append(out.Kids, kid.tree())
	}
	return out
}

// link lets n, which stands nowhere, stand beneath above, right behind its kid ahead (nil: ahead of all).
func (n *node) link(above, ahead *node) {
	n.above, n.prev = above, ahead
	if ahead == nil {
		n.next, above.first = above.first, n
	} else {
		n.next, ahead.next = ahead.next, n
	}
	if n.next != nil {
		n.next.prev = n
	}
}

// unlink lets n, which stands beneath something, stand nowhere.
func (n *node) unlink() {
	if n.prev == nil {
		n.above.first = n.next
	} else {
		n.prev.next = n.next
	}
	if n.next != nil {
		n.next.prev = n.prev
	}
	n.above, n.prev, n.next = nil, nil, nil
}

// inTree tells the tree's node with that key; nil, if there is none.
func (w *work) inTree(key api.Stamp) *node {
	n := w.nodes[key]
	for up := n; up != nil; up = up.above {
		if up == w.top {
			return n
		}
	}
	return nil
}

// held tells the node with that key that is held itself; nil, if there is none.
func (w *work) held(key api.Stamp) *node {
	if n := w.nodes[key]; n != nil && n.above == w.hand {
		return n
	}
	return nil
}

// ahead tells the kid of above behind which something is to stand (nil: it stands ahead of all); false, if after is none of its kids.
func (w *work) ahead(above *node, after api.Stamp) (*node, bool) {
	if isZero(after) {
		return nil, true
	}
	n := w.nodes[after]
	if n == nil || n.above != above {
		return nil, false
	}
	return n, true
}

// steps has at the place of each kind what is done with a right step of it. What can't be done changes nothing.
func (w *work) steps() [api.PClear + 1]func(api.Patch) api.Errno {
	return [api.PClear + 1]func(api.Patch) api.Errno{
		api.PTake:  w.take,
		api.PDrop:  w.drop,
		api.PMake:  w.makeNode,
		api.PPut:   w.put,
		api.PShift: w.shift,
		api.PTag:   w.setTag,
		api.PText:  w.setText,
		api.PSet:   w.setAttr,
		api.PClear: w.clearAttr,
	}
}

func (w *work) take(p api.Patch) api.Errno {
	n := w.nodes[p.Key]
	if n == nil || n.above == w.hand {
		return api.ErrNone
	}
	if n == w.top {
		return api.ErrState
	}
	n.unlink()
	n.link(w.hand, nil)
	return api.OK
}

func (w *work) drop(p api.Patch) api.Errno {
	n := w.held(p.Key)
	if n == nil {
		return api.ErrNone
	}
	if n.first != nil {
		return api.ErrState
	}
	n.unlink()
	delete(w.nodes, p.Key)
	return api.OK
}

func (w *work) makeNode(p api.Patch) api.Errno {
	if w.nodes[p.Key] != nil {
		return api.ErrTwice
	}
	if len(w.nodes) == api.MaxNodes {
		return api.ErrFull
	}
	n := &node{own: api.VNode{Key: p.Key, Tag: p.Name}}
	w.nodes[p.Key] = n
	n.link(w.hand, nil)
	return api.OK
}

func (w *work) put(p api.Patch) api.Errno {
	n, above := w.held(p.Key), w.inTree(p.Parent)
	if n == nil || above == nil {
		return api.ErrNone
	}
	ahead, ok := w.ahead(above, p.After)
	if !ok {
		return api.ErrState
	}
	n.unlink()
	n.link(above, ahead)
	return api.OK
}

func (w *work) shift(p api.Patch) api.Errno {
	n := w.inTree(p.Key)
	if n == nil {
		return api.ErrNone
	}
	if n == w.top {
		return api.ErrState
	}
	above := n.above
	ahead, ok := w.ahead(above, p.After)
	if !ok {
		return api.ErrState
	}
	n.unlink()
	n.link(above, ahead)
	return api.OK
}

func (w *work) setTag(p api.Patch) api.Errno {
	n := w.nodes[p.Key]
	if n == nil {
		return api.ErrNone
	}
	n.own.Tag = p.Name
	return api.OK
}

func (w *work) setText(p api.Patch) api.Errno {
	n := w.nodes[p.Key]
	if n == nil {
		return api.ErrNone
	}
	n.own.Text = p.Value
	return api.OK
}

func (w *work) setAttr(p api.Patch) api.Errno {
	n := w.nodes[p.Key]
	if n == nil {
		return api.ErrNone
	}
	at, isThere := n.attr(p.Name)
	if isThere {
		n.own.Attrs[at].Value = p.Value
		return api.OK
	}
	if len(n.own.Attrs) == api.MaxAttrs {
		return api.ErrFull
	}
	n.own.Attrs = slices.Insert(n.own.Attrs, at, api.Attr{Name: p.Name, Value: p.Value})
	return api.OK
}

func (w *work) clearAttr(p api.Patch) api.Errno {
	n := w.nodes[p.Key]
	if n == nil {
		return api.ErrNone
	}
	at, isThere := n.attr(p.Name)
	if !isThere {
		return api.ErrNone
	}
	n.own.Attrs = slices.Delete(n.own.Attrs, at, at+1)
	return api.OK
}

// attr tells the place at which the attribute of that name stands, or would stand, and whether it is there.
func (n *node) attr(name string) (int, bool) {
	return slices.BinarySearchFunc(n.own.Attrs, name, func(a api.Attr, name string) int {
		return strings.Compare(a.Name, name)
	})
}
