package diff

import (
	"maps"

	"topiary/api"
	"topiary/lis"
)

// leave tells the steps by which what of a can't stay where it is leaves the tree. All of them are taken ahead of the first drop: whoever is dropped may have no kids, and all that it had are gone or strange.
func (was spotsByKey) leave(a, b *api.VNode) []api.Patch {
	taken, gone := maps.Clone(was), maps.Clone(was)
	for s := range spots(b) {
		key := s.node.Key
		delete(gone, key)
		// The topmost nodes, too, stand beneath the same: beneath nothing.
		if taken[key].above == s.above {
			delete(taken, key)
		}
	}
	return append(taken.each(api.PTake, a), gone.each(api.PDrop, a)...)
}

// each tells a step of that kind for each node of t, in order, that is among these.
func (some spotsByKey) each(kind int, t *api.VNode) []api.Patch {
	var out []api.Patch
	for s := range spots(t) {
		if _, isThere := some[s.node.Key]; isThere {
			out = append(out, api.Patch{Kind: kind, Key: s.node.Key})
		}
	}
	return out
}

// write tells the steps by which a node of b, which is made by then if it is new, gets its tag, text and attributes.
func (was spotsByKey) write(n *api.VNode) []api.Patch {
	old := api.VNode{Tag: n.Tag} // as it is made
	if s, isOld := was[n.Key]; isOld {
		old = *s.node
	}
	var out []api.Patch
	if n.Tag != old.Tag {
		out = append(out, api.Patch{Kind: api.PTag, Key: n.Key, Name: n.Tag})
	}
	if n.Text != old.Text {
		out = append(out, api.Patch{Kind: api.PText, Key: n.Key, Value: n.Text})
	}
	return append(out, writeAttrs(n.Key, old.Attrs, n.Attrs)...)
}

// writeAttrs goes through both lists side by side, since the names of both rise. The order is that of the names even where a full node would need the clears ahead.
func writeAttrs(key api.Stamp, old, attrs []api.Attr) []api.Patch {
	var out []api.Patch
	set := func(a api.Attr) {
		out = append(out, api.Patch{Kind: api.PSet, Key: key, Name: a.Name, Value: a.Value})
	}
	for len(old) > 0 || len(attrs) > 0 {
		switch {
		case len(attrs) == 0 || len(old) > 0 && old[0].Name < attrs[0].Name:
			out = append(out, api.Patch{Kind: api.PClear, Key: key, Name: old[0].Name})
			old = old[1:]
		case len(old) == 0 || attrs[0].Name < old[0].Name:
			set(attrs[0])
			attrs = attrs[1:]
		default:
			if old[0].Value != attrs[0].Value {
				set(attrs[0])
			}
			old, attrs = old[1:], attrs[1:]
		}
	}
	return out
}

// place tells the steps by which the kids of a node of b come to stand beneath it in their order.
func (was spotsByKey) place(n *api.VNode) []api.Patch {
	shifted := was.shifted(n)
	var out []api.Patch
	var after api.Stamp
	for _, kid := range n.Kids {
		old, isOld := was[kid.Key]
		_, isShifted := shifted[kid.Key]
		switch {
		case !isOld:
			out = append(out, api.Patch{Kind: api.PMake, Key: kid.Key, Name: kid.Tag})
			fallthrough
		case old.above != n.Key: // strange
			out = append(out, api.Patch{Kind: api.PPut, Key: kid.Key, Parent: n.Key, After: after})
		case isShifted:
			out = append(out, api.Patch{Kind: api.PShift, Key: kid.Key, After: after})
		}
		after = kid.Key
	}
	return out
}

// shifted tells which kids of a node of b are shifted.
func (was spotsByKey) shifted(n *api.VNode) map[api.Stamp]struct{} {
	var stayed []api.Stamp
	var places []int
	for _, kid := range n.Kids {
		if old, isOld := was[kid.Key]; isOld && old.above == n.Key {
			stayed = append(stayed, kid.Key)
			places = append(places, old.place)
		}
	}
	out := map[api.Stamp]struct{}{}
	for _, i := range lis.Others(places) {
		out[stayed[i]] = struct{}{}
	}
	return out
}
