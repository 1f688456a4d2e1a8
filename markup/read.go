package markup

import (
	"strings"

	"topiary/api"
	"topiary/change"
	"topiary/ident"
	"topiary/whole"
)

// around has the bytes that stand around escaped texts, and never in them.
const around = "<>\""

// reader has what is left of a text, and reads what escaped texts are made of. What does not fit leaves by a panic, so that whoever reads on need not ask.
type reader struct {
	rest string
}

// skip tells whether mark is next; if so, it is read.
func (r *reader) skip(mark string) bool {
	rest, isNext := strings.CutPrefix(r.rest, mark)
	r.rest = rest
	return isNext
}

func (r *reader) take(mark string) {
	if !r.skip(mark) {
		panic(misfit{})
	}
}

func (r *reader) end() {
	if r.rest != "" {
		panic(misfit{})
	}
}

// upTo reads all that is ahead of the first one of these bytes.
func (r *reader) upTo(marks string) string {
	n := strings.IndexAny(r.rest, marks)
	if n < 0 {
		panic(misfit{})
	}
	word := r.rest[:n]
	r.rest = r.rest[n:]
	return word
}

// text reads what is escaped, up to the first byte that never is.
func (r *reader) text() string {
	var out []byte
	for r.rest != "" && strings.IndexByte(around, r.rest[0]) < 0 {
		out = append(out, r.char())
	}
	return string(out)
}

func (r *reader) char() byte {
	b := r.rest[0]
	if b == '&' {
		name, _, _ := strings.Cut(r.rest[1:], ";")
		b = named(name)
	}
	// Whatever byte was found: it is the one just if it is written so, and each is written in one way.
	r.take(escaped(b))
	return b
}

// named tells which byte it is if that is a byte's name at all.
func named(name string) byte {
	switch name {
	case "amp":
		return '&'
	case "lt":
		return '<'
	case "gt":
		return '>'
	case "quot":
		return '"'
	}
	n, _ := whole.Read(strings.TrimPrefix(name, "#"))
	return byte(n)
}

// nodeReader reads nodes. The marks and texts in them it reads as the reader does that it is.
type nodeReader struct {
	reader
}

func (r *nodeReader) node() api.VNode {
	r.take("<")
	n := api.VNode{Tag: r.name(" ")}
	r.take(" #")
	n.Key = r.key()
	for r.skip(" ") {
		n.Attrs = append(n.Attrs, r.attr())
	}
	r.take(">")
	n.Text = r.text()
	for !r.skip("</") {
		n.Kids = append(n.Kids, r.node())
	}
	r.take(n.Tag)
	r.take(">")
	return n
}

func (r *nodeReader) attr() api.Attr {
	a := api.Attr{Name: r.name("=")}
	r.take("=\"")
	a.Value = r.text()
	r.take("\"")
	return a
}

func (r *nodeReader) name(mark string) string {
	name := r.upTo(mark)
	if !change.Name(name) {
		panic(misfit{})
	}
	return name
}

func (r *nodeReader) key() api.Stamp {
	key, e := ident.Parse(r.upTo(" >"))
	if e != api.OK {
		panic(misfit{})
	}
	return key
}
