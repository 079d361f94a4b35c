package recipe

import (
	"graft/api"
)

// printer gathers a recipe's text.
type printer struct {
	text []byte
}

// full says whether the text is longer than it may be. The bytes of strings are left out from there on: a recipe that
// may be can have one great string in many places, and its text need not be made to be refused.
func (p *printer) full() bool { return len(p.text) > api.MaxText }

// recipe prints the whole text.
func (p *printer) recipe(r api.Recipe) {
	p.add("Derive(")
	series(p, "[", "]", (*printer).output, r.Outputs...)
	p.add(",")
	series(p, "[", "]", (*printer).input, r.Inputs...)
	p.add(",")
	p.list(r.Sources...)
	p.add(",")
	p.quoted(r.System)
	p.add(",")
	p.quoted(r.Builder)
	p.add(",")
	p.list(r.Args...)
	p.add(",")
	series(p, "[", "]", (*printer).pair, r.Env...)
	p.add(")")
}

// series prints elements with commas between, each by one.
func series[T any](p *printer, open, shut string, one func(*printer, T), elements ...T) {
	p.add(open)
	for i, x := range elements {
		if i > 0 {
			p.add(",")
		}
		one(p, x)
	}
	p.add(shut)
}

func (p *printer) output(o api.Output) { p.row(o.Name, o.Label, o.Algo, o.Sum) }

func (p *printer) pair(x api.Pair) { p.row(x.Key, x.Value) }

func (p *printer) input(in api.Input) {
	p.add("(")
	p.quoted(in.Recipe)
	p.add(",")
	p.list(in.Outputs...)
	p.add(")")
}

// list prints strings in brackets.
func (p *printer) list(texts ...string) { series(p, "[", "]", (*printer).quoted, texts...) }

// row prints strings in parentheses.
func (p *printer) row(texts ...string) { series(p, "(", ")", (*printer).quoted, texts...) }

// quoted prints a string.
func (p *printer) quoted(text string) {
	p.add("\"")
	for i := 0; i < len(text) && !p.full(); i++ {
		p.char(text[i])
	}
	p.add("\"")
}

// char prints one byte of a string, as it is or escaped.
func (p *printer) char(c byte) {
	switch c {
	case '\n', '\r', '\t':
		c = letterOf(c)
		fallthrough
	case '"', '\\':
		p.text = append(p.text, '\\')
	}
	p.text = append(p.text, c)
}

// letterOf is the letter that stands behind the backslash for a line feed, a carriage return or a tab.
func letterOf(c byte) byte {
	switch c {
	case '\n':
		return 'n'
	case '\r':
		return 'r'
	}
	return 't'
}

func (p *printer) add(text string) { p.text = append(p.text, text...) }
