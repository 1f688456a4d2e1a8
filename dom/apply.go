package dom

import (
	"slices"

	"topiary/api"
	"topiary/patch"
)

// Apply does these steps, and tells how many they are; if one can't be done, its place, and why, and none is done.
func (d *Dom) Apply(l []api.Patch) (int, api.Errno) {
	if d == nil {
		return 0, api.ErrState
	}
	// Done on plain data first: what can't be done is known before a node is touched, and no step below needs to ask again.
	if _, at, e := patch.Apply(d.Read(), l); e != api.OK {
		return at, e
	}
	w := &work{dom: d, held: map[api.Stamp]*Node{}}
	steps := stepsByKind()
	for _, p := range l {
		steps[p.Kind](w, p)
	}
	return len(l), api.OK
}

// work is a dom while it is changed, and which of its nodes are held themselves. The index finds all, those too that are held or beneath such a one.
type work struct {
	dom  *Dom
	held map[api.Stamp]*Node
}

// stepsByKind has at the place of each kind what is done with a step of it that can be done.
func stepsByKind() [api.PClear + 1]func(*work, api.Patch) {
	return [api.PClear + 1]func(*work, api.Patch){
		api.PTake:  (*work).take,
		api.PDrop:  (*work).drop,
		api.PMake:  (*work).makeNode,
		api.PPut:   (*work).put,
		api.PShift: (*work).shift,
		api.PTag:   (*work).setTag,
		api.PText:  (*work).setText,
		api.PSet:   (*work).setAttr,
		api.PClear: (*work).clearAttr,
	}
}

func (w *work) take(p api.Patch) {
	n := w.dom.index[p.Key]
	n.leave()
	w.held[p.Key] = n
}

func (w *work) drop(p api.Patch) {
	delete(w.held, p.Key)
	delete(w.dom.index, p.Key)
}

func (w *work) makeNode(p api.Patch) {
	n := newNode(api.VNode{Key: p.Key, Tag: p.Name})
	w.dom.index[p.Key] = n
	w.held[p.Key] = n
}

func (w *work) put(p api.Patch) {
	n := w.held[p.Key]
	delete(w.held, p.Key)
	n.join(w.dom.index[p.Parent], w.ahead(p))
}

func (w *work) shift(p api.Patch) {
	n := w.dom.index[p.Key]
	parent := n.parent
	n.leave()
	n.join(parent, w.ahead(p))
}

func (w *work) setTag(p api.Patch) { w.dom.index[p.Key].tag = p.Name }

func (w *work) setText(p api.Patch) { w.dom.index[p.Key].text = p.Value }

func (w *work) setAttr(p api.Patch) {
	n := w.dom.index[p.Key]
	at, isThere := n.attr(p.Name)
	if isThere {
		n.attrs[at].Value = p.Value
		return
	}
	n.attrs = slices.Insert(n.attrs, at, api.Attr{Name: p.Name, Value: p.Value})
}

func (w *work) clearAttr(p api.Patch) {
	n := w.dom.index[p.Key]
	at, _ := n.attr(p.Name)
	n.attrs = slices.Delete(n.attrs, at, at+1)
}

// ahead tells the node behind which p's node is to stand; nil, if it is to stand ahead of all. The zero stamp is the root's key, too, but never a sibling's.
func (w *work) ahead(p api.Patch) *Node {
	if p.After == (api.Stamp{}) {
		return nil
	}
	return w.dom.index[p.After]
}
