package vtree

import (
	"topiary/api"
	"topiary/fold"
)

const rootTag = "root"

// Of tells the tree that any Doc comes to.
func Of(d api.Doc) (api.VNode, api.Errno) {
	g := growth{parts: split(d), ahead: map[api.Stamp]struct{}{}}
	t, ok := g.grow(api.Stamp{}, rootTag)
	if !ok {
		return api.VNode{}, api.ErrLong
	}
	return t, api.OK
}

// growth is a tree that grows in its own order.
type growth struct {
	parts parts
	ahead map[api.Stamp]struct{} // the nodes that stand in the tree by now
}

// grow tells that node with all beneath it; false, if there would be too many.
func (g growth) grow(key api.Stamp, tag string) (api.VNode, bool) {
	if len(g.ahead) == api.MaxNodes {
		return api.VNode{}, false
	}
	g.ahead[key] = struct{}{}
	part := g.parts.of(key)
	n := api.VNode{Key: key, Tag: tag, Text: text(part.Regs), Attrs: attrs(part.Regs)}
	for _, kid := range fold.Kids(*part, key) {
		tag, isMade := fold.Tag(*g.parts.of(kid), kid)
		// Asked kid by kid: one may stand beneath a sibling ahead.
		if _, isAhead := g.ahead[kid]; isAhead || !isMade {
			continue
		}
		grown, ok := g.grow(kid, tag)
		if !ok {
			return api.VNode{}, false
		}
		n.Kids = append(n.Kids, grown)
	}
	return n, true
}

// parts has of each node what a Doc says of it and of the places beneath it, as a Doc of its own. Layer 14 answers the same of it, and need not look through all others each time.
type parts map[api.Stamp]*api.Doc

func (p parts) of(node api.Stamp) *api.Doc {
	if p[node] == nil {
		p[node] = &api.Doc{}
	}
	return p[node]
}

func split(d api.Doc) parts {
	out := parts{}
	for _, m := range d.Made {
		part := out.of(m.Node)
		part.Made = append(part.Made, m)
	}
	for _, placed := range d.Placed {
		part := out.of(placed.Parent)
		part.Placed = append(part.Placed, placed)
	}
	for _, r := range d.Rows {
		// Of a node the first row counts.
		if part := out.of(r.Parent); len(part.Rows) == 0 {
			part.Rows = []api.Row{{Parent: r.Parent, Slots: once(r.Slots)}}
		}
	}
	for _, r := range d.Regs {
		part := out.of(r.Node)
		part.Regs = append(part.Regs, r)
	}
	return out
}

// once tells each slot where it stands first. Whoever stands in it again stands ahead already, and many times many of them would be gone through in vain.
func once(slots []api.Stamp) []api.Stamp {
	var out []api.Stamp
	ahead := map[api.Stamp]struct{}{}
	for _, s := range slots {
		if _, isAhead := ahead[s]; isAhead {
			continue
		}
		ahead[s] = struct{}{}
		out = append(out, s)
	}
	return out
}

// text tells a node's text of its registers, of which the first one without a name counts.
func text(l []api.Reg) string {
	for _, r := range l {
		if r.Name != "" {
			continue
		}
		if r.Gone {
			return ""
		}
		return r.Value
	}
	return ""
}

// attrs tells a node's attributes of its registers, in their order.
func attrs(l []api.Reg) []api.Attr {
	var out []api.Attr
	for _, r := range l {
		if r.Name != "" && !r.Gone {
			out = append(out, api.Attr{Name: r.Name, Value: r.Value})
		}
	}
	return out
}
