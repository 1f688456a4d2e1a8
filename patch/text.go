package patch

import (
	"strings"

	"topiary/api"
	"topiary/change"
	"topiary/ident"
)

const (
	separator = " "
	lineEnd   = "\n"
	noneText  = "-"
)

// Print tells right steps as a text.
func Print(l []api.Patch) (string, api.Errno) {
	// All ahead of the first word: a wrong step counts before a text that is too long.
	for _, p := range l {
		if e := Check(p); e != api.OK {
			return "", e
		}
	}
	var out strings.Builder
	for _, p := range l {
		out.WriteString(stepText(p))
		out.WriteString(lineEnd)
		if out.Len() > api.MaxText {
			return "", api.ErrLong
		}
	}
	return out.String(), api.OK
}

// Parse tells the right steps of which s is the text.
func Parse(s string) ([]api.Patch, api.Errno) {
	if len(s) > api.MaxText {
		return nil, api.ErrLong
	}
	var out []api.Patch
	for s != "" {
		line, rest, isEnded := strings.Cut(s, lineEnd)
		p := read(line)
		// Whatever was read: it is right, and nothing of the line was passed over, just if its text is the line.
		if !isEnded || Check(p) != api.OK || stepText(p) != line {
			return nil, api.ErrForm
		}
		out = append(out, p)
		s = rest
	}
	return out, api.OK
}

// stepText: only of what was checked, so that each field has a text.
func stepText(p api.Patch) string {
	words := []string{kindText(p.Kind), stampText(p.Key)}
	has := fieldsOf(p.Kind)
	if has.parent {
		words = append(words, stampText(p.Parent))
	}
	if has.after {
		words = append(words, afterText(p.After))
	}
	if has.name {
		words = append(words, p.Name)
	}
	if has.value {
		words = append(words, change.Quote(p.Value))
	}
	return strings.Join(words, separator)
}

func kindText(kind int) string {
	switch kind {
	case api.PTake:
		return "take"
	case api.PDrop:
		return "drop"
	case api.PMake:
		return "make"
	case api.PPut:
		return "put"
	case api.PShift:
		return "shift"
	case api.PTag:
		return "tag"
	case api.PText:
		return "text"
	case api.PSet:
		return "set"
	case api.PClear:
		return "clear"
	}
	return ""
}

func stampText(s api.Stamp) string {
	text, _ := ident.Text(s)
	return text
}

// afterText: a sibling that is none has the root's stamp, but not its text.
func afterText(s api.Stamp) string {
	if isZero(s) {
		return noneText
	}
	return stampText(s)
}

// read tells the step of which s may be the text; a field whose word is none is left zero.
func read(s string) api.Patch {
	w := words{rest: s}
	p := api.Patch{Kind: w.kind()}
	p.Key = w.stamp()
	has := fieldsOf(p.Kind)
	if has.parent {
		p.Parent = w.stamp()
	}
	if has.after {
		p.After = w.stamp()
	}
	if has.name {
		p.Name = w.next()
	}
	if has.value {
		// All that is left, not the next word: within a quoted text blanks stand for themselves.
		p.Value, _ = change.Unquote(w.rest)
	}
	return p
}

// words is what is left of a text that is read word by word.
type words struct {
	rest string
}

func (w *words) next() string {
	word, rest, _ := strings.Cut(w.rest, separator)
	w.rest = rest
	return word
}

func (w *words) kind() int {
	word := w.next()
	for i := range api.PClear {
		if kindText(i+1) == word {
			return i + 1
		}
	}
	return 0
}

func (w *words) stamp() api.Stamp {
	s, _ := ident.Parse(w.next())
	return s
}
