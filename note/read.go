package note

import (
	"unicode/utf8"

	"graft/api"
)

// reader goes over a note's text.
type reader struct {
	text string
	at   int
}

// fault is why a reader can't go on, and where that was met.
type fault struct {
	e  api.Errno
	at int
}

// whole reads the text from its first byte to its last.
func (r *reader) whole() (value, fault) {
	v, f := r.value(0)
	if f.e != api.OK {
		return nil, f
	}
	r.blanks()
	if r.at < len(r.text) {
		return nil, fault{api.ErrTail, r.at}
	}
	return v, fault{}
}

// value reads a note of that depth, and the blanks ahead of it.
func (r *reader) value(depth int) (value, fault) {
	r.blanks()
	switch c := r.next(); {
	case (c == '[' || c == '{') && depth >= api.MaxNest:
		return nil, fault{api.ErrNest, r.at}
	case r.has('['):
		return r.list(depth + 1)
	case r.has('{'):
		return r.table(depth + 1)
	case c == '"':
		text, f := r.quoted()
		return words(text), f
	case c == '-' || isDigit(c):
		return r.number()
	}
	return r.word()
}

// word reads one of the three words.
func (r *reader) word() (value, fault) {
	switch r.next() {
	case 'n':
		return null{}, r.spelt("null")
	case 't':
		return truth(true), r.spelt("true")
	case 'f':
		return truth(false), r.spelt("false")
	}
	return nil, r.stuck()
}

func (r *reader) spelt(word string) fault {
	for i := range len(word) {
		if !r.has(word[i]) {
			return r.stuck()
		}
	}
	return fault{}
}

// list reads what stands behind a list's bracket, notes of that depth.
func (r *reader) list(depth int) (value, fault) {
	var out list
	r.blanks()
	if r.has(']') {
		return out, fault{}
	}
	for {
		v, f := r.value(depth)
		if f.e != api.OK {
			return nil, f
		}
		out = append(out, v)
		if end, f := r.ended(']'); end || f.e != api.OK {
			return out, f
		}
	}
}

// table reads what stands behind a table's brace, with notes of that depth.
func (r *reader) table(depth int) (value, fault) {
	var out table
	seen := names{}
	r.blanks()
	if r.has('}') {
		return out, fault{}
	}
	for {
		name, f := r.name(seen)
		if f.e != api.OK {
			return nil, f
		}
		v, f := r.value(depth)
		if f.e != api.OK {
			return nil, f
		}
		out = append(out, field{name, v})
		if end, f := r.ended('}'); end || f.e != api.OK {
			return out, f
		}
	}
}

// name reads a field's name and its colon; seen has the names ahead of it.
func (r *reader) name(seen names) (string, fault) {
	r.blanks()
	from := r.at
	if r.next() != '"' {
		return "", r.stuck()
	}
	name, f := r.quoted()
	if f.e != api.OK {
		return "", f
	}
	if !seen.add(name) {
		return "", fault{api.ErrPair, from}
	}
	r.blanks()
	if !r.has(':') {
		return "", r.stuck()
	}
	return name, fault{}
}

// ended says whether a list or a table ends here; else a comma must stand here.
func (r *reader) ended(sign byte) (bool, fault) {
	r.blanks()
	if r.has(sign) {
		return true, fault{}
	}
	if !r.has(',') {
		return false, r.stuck()
	}
	return false, fault{}
}

// number reads a number as far as it goes.
func (r *reader) number() (value, fault) {
	from := r.at
	n, ended := span(r.text[from:])
	r.at += n
	if !ended {
		return nil, r.stuck()
	}
	if n > api.MaxDigits {
		return nil, fault{api.ErrNumber, from}
	}
	x, e := nearest(r.text[from:r.at])
	if e != api.OK {
		return nil, fault{e, from}
	}
	return number(x), fault{}
}

// quoted reads a text; its opening quote stands here.
func (r *reader) quoted() (string, fault) {
	var out []byte
	r.at++
	for {
		run, f := r.run()
		if f.e != api.OK {
			return "", f
		}
		out = append(out, run...)
		if r.has('"') {
			return string(out), fault{}
		}
		c, f := r.escape()
		if f.e != api.OK {
			return "", f
		}
		out = utf8.AppendRune(out, c)
	}
}

// run reads the characters that stand for themselves, up to a quote or a backslash.
func (r *reader) run() (string, fault) {
	from := r.at
	for i, c := range r.text[from:] {
		r.at = from + i
		switch {
		case c == '"' || c == '\\':
			return r.text[from:r.at], fault{}
		case c < ' ':
			return "", fault{api.ErrJson, r.at}
		case broken(r.text[r.at:], c):
			return "", fault{api.ErrUtf, r.at}
		}
	}
	return "", fault{api.ErrShort, len(r.text)}
}

// escape reads a backslash, and what makes one character with it.
func (r *reader) escape() (rune, fault) {
	from := r.at
	r.at++
	c := rune(r.next())
	switch c {
	case '"', '\\', '/':
	case 'b':
		c = '\b'
	case 'f':
		c = '\f'
	case 'n':
		c = '\n'
	case 'r':
		c = '\r'
	case 't':
		c = '\t'
	case 'u':
		r.at++
		return r.coded(from)
	default:
		return 0, r.stuck()
	}
	r.at++
	return c, fault{}
}

// The code units of which two make one character: an upper one from upper on, a lower one from lower on.
const (
	upper = 0xD800
	lower = 0xDC00
	above = 0xE000  // the first unit behind them
	wide  = 0x10000 // the first character that takes two
)

// coded reads the digits of an escape whose backslash stands at from, and the escape behind it if the two are one character.
func (r *reader) coded(from int) (rune, fault) {
	c, f := r.unit()
	if f.e != api.OK || c < upper || c >= above {
		return c, f
	}
	if c < lower {
		if low, ok := r.low(); ok {
			return wide + (c-upper)<<10 + (low - lower), fault{}
		}
	}
	return 0, fault{api.ErrUtf, from}
}

// low goes on behind an escape of a lower unit; it stays, if none stands here.
func (r *reader) low() (rune, bool) {
	ahead := *r
	if !ahead.has('\\') || !ahead.has('u') {
		return 0, false
	}
	c, f := ahead.unit()
	if f.e != api.OK || c < lower || c >= above {
		return 0, false
	}
	r.at = ahead.at
	return c, true
}

// unit reads four hexadecimal digits.
func (r *reader) unit() (rune, fault) {
	var out rune
	for range 4 {
		d, ok := hexadecimal(r.next())
		if !ok {
			return 0, r.stuck()
		}
		out = out<<4 + d
		r.at++
	}
	return out, fault{}
}

func hexadecimal(c byte) (rune, bool) {
	switch {
	case isDigit(c):
		return rune(c - '0'), true
	case c >= 'a' && c <= 'f':
		return rune(c-'a') + 10, true
	case c >= 'A' && c <= 'F':
		return rune(c-'A') + 10, true
	}
	return 0, false
}

func (r *reader) blanks() {
	for r.has(' ') || r.has('\t') || r.has('\n') || r.has('\r') {
	}
}

// next is the byte that stands here; 0 at the text's end, since nowhere a byte 0 lets a text go on.
func (r *reader) next() byte {
	return byteAt(r.text, r.at)
}

// has says whether that byte stands here, and goes on behind it then.
func (r *reader) has(c byte) bool {
	if r.next() != c {
		return false
	}
	r.at++
	return true
}

// stuck is the fault where no byte that may come stands.
func (r *reader) stuck() fault {
	if r.at < len(r.text) {
		return fault{api.ErrJson, r.at}
	}
	return fault{api.ErrShort, r.at}
}
