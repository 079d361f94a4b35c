package note

import (
	"slices"
	"strconv"
	"unicode/utf8"

	"graft/api"
)

// printer lays a value's text down. It may give up once the text is too long: then nobody wants it.
type printer struct {
	out    []byte
	sorted bool
}

// printed is a value's text, in which each table's fields stand as they do or in the order of their names.
func printed(v value, sorted bool) string {
	p := printer{sorted: sorted}
	p.value(v)
	return string(p.out)
}

func (p *printer) value(v value) {
	switch x := v.(type) {
	case null:
		p.out = append(p.out, "null"...)
	case truth:
		p.out = strconv.AppendBool(p.out, bool(x))
	case number:
		p.out = append(p.out, shown(float64(x))...)
	case words:
		p.quoted(string(x))
	case list:
		p.list(x)
	case table:
		p.table(x)
	}
}

func (p *printer) full() bool {
	return len(p.out) > api.MaxText
}

func (p *printer) list(l list) {
	p.out = append(p.out, '[')
	for i, v := range l {
		if p.full() {
			return
		}
		p.comma(i)
		p.value(v)
	}
	p.out = append(p.out, ']')
}

func (p *printer) table(t table) {
	if p.sorted {
		t = inOrder(t)
	}
	p.out = append(p.out, '{')
	for i, f := range t {
		if p.full() {
			return
		}
		p.comma(i)
		p.quoted(f.name)
		p.out = append(p.out, ':')
		p.value(f.value)
	}
	p.out = append(p.out, '}')
}

// comma stands ahead of each element but the first.
func (p *printer) comma(i int) {
	if i > 0 {
		p.out = append(p.out, ',')
	}
}

func (p *printer) quoted(text string) {
	p.out = append(p.out, '"')
	for _, c := range text {
		p.char(c)
	}
	p.out = append(p.out, '"')
}

func (p *printer) char(c rune) {
	switch c {
	case '"', '\\':
		p.out = append(p.out, '\\', byte(c))
	case '\b':
		p.out = append(p.out, `\b`...)
	case '\t':
		p.out = append(p.out, `\t`...)
	case '\n':
		p.out = append(p.out, `\n`...)
	case '\f':
		p.out = append(p.out, `\f`...)
	case '\r':
		p.out = append(p.out, `\r`...)
	default:
		p.other(c)
	}
}

// other lays down a character that has no escape of its own.
func (p *printer) other(c rune) {
	const digits = "0123456789abcdef"
	if c < ' ' {
		p.out = append(p.out, '\\', 'u', '0', '0', digits[c>>4], digits[c&15])
		return
	}
	p.out = utf8.AppendRune(p.out, c)
}

// inOrder is a table whose fields stand in the order of their names' UTF-16 code units.
func inOrder(t table) table {
	type row struct {
		units []uint16
		field field
	}
	rows := make([]row, len(t))
	for i, f := range t {
		rows[i] = row{units(f.name), f}
	}
	slices.SortFunc(rows, func(a, b row) int { return slices.Compare(a.units, b.units) })
	out := make(table, len(t))
	for i, r := range rows {
		out[i] = r.field
	}
	return out
}

// units is a text in UTF-16.
func units(text string) []uint16 {
	var out []uint16
	for _, c := range text {
		if c < wide {
			out = append(out, uint16(c))
			continue
		}
		c -= wide
		out = append(out, uint16(upper+c>>10), uint16(lower+c&0x3ff))
	}
	return out
}
