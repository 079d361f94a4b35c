package recipe

import (
	"graft/api"
)

// reader goes over a recipe's text. Where it cannot go on it panics with a fault, so that none of its
// parts has to ask whether another one has failed.
type reader struct {
	text string
	at   int
}

// fault is why a reader gave up, and where.
type fault struct {
	e  api.Errno
	at int
}

// recipe reads the whole text.
func (r *reader) recipe() api.Recipe {
	var out api.Recipe
	r.word("Derive(")
	out.Outputs = readList(r, (*reader).output)
	r.word(",")
	out.Inputs = readList(r, (*reader).input)
	r.word(",")
	out.Sources = readList(r, (*reader).quoted)
	r.word(",")
	out.System = r.quoted()
	r.word(",")
	out.Builder = r.quoted()
	r.word(",")
	out.Args = readList(r, (*reader).quoted)
	r.word(",")
	out.Env = readList(r, (*reader).pair)
	r.word(")")
	if r.at < len(r.text) {
		panic(fault{api.ErrTail, r.at})
	}
	return out
}

// readList reads a list, and each of its elements by one.
func readList[T any](r *reader, one func(*reader) T) []T {
	r.word("[")
	if r.has(']') {
		return nil
	}
	var out []T
	for {
		out = append(out, one(r))
		if r.has(']') {
			return out
		}
		r.word(",")
	}
}

func (r *reader) output() api.Output {
	var o api.Output
	r.row(&o.Name, &o.Label, &o.Algo, &o.Sum)
	return o
}

func (r *reader) pair() api.Pair {
	var p api.Pair
	r.row(&p.Key, &p.Value)
	return p
}

func (r *reader) input() api.Input {
	var in api.Input
	r.word("(")
	in.Recipe = r.quoted()
	r.word(",")
	in.Outputs = readList(r, (*reader).quoted)
	r.word(")")
	return in
}

// row reads as many strings in parentheses.
func (r *reader) row(into ...*string) {
	r.word("(")
	for i, text := range into {
		if i > 0 {
			r.word(",")
		}
		*text = r.quoted()
	}
	r.word(")")
}

// quoted reads a string.
func (r *reader) quoted() string {
	r.word("\"")
	var out []byte
	for !r.has('"') {
		out = append(out, r.char())
	}
	return string(out)
}

// char reads one byte of a string, as it is or escaped.
func (r *reader) char() byte {
	c := r.present()
	switch c {
	case '\\':
		r.at++
		c = r.escaped()
	case '\n', '\r', '\t':
		panic(fault{api.ErrTerm, r.at})
	}
	r.at++
	return c
}

// escaped is what the byte behind a backslash stands for.
func (r *reader) escaped() byte {
	switch c := r.present(); c {
	case '"', '\\':
		return c
	case 'n':
		return '\n'
	case 'r':
		return '\r'
	case 't':
		return '\t'
	}
	panic(fault{api.ErrTerm, r.at})
}

// word goes on behind bytes that must come.
func (r *reader) word(word string) {
	for i := range len(word) {
		if !r.has(word[i]) {
			panic(fault{api.ErrTerm, r.at})
		}
	}
}

// has says whether that byte comes, and goes on behind it then.
func (r *reader) has(c byte) bool {
	if r.present() != c {
		return false
	}
	r.at++
	return true
}

// present is the byte that comes: wherever it is asked for, one must come.
func (r *reader) present() byte {
	if r.at == len(r.text) {
		panic(fault{api.ErrShort, r.at})
	}
	return r.text[r.at]
}
