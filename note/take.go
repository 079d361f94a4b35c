package note

import (
	"math"
	"strings"
	"unicode/utf8"

	"graft/api"
)

// admit takes a note in: the value and its text, or the first fault.
func admit(n api.Note) (value, string, api.Errno) {
	var t taker
	v, e := t.take(n, 0)
	if e != api.OK {
		return nil, "", e
	}
	text := printed(v, false)
	if len(text) > api.MaxText {
		return nil, "", api.ErrLong
	}
	return v, text, api.OK
}

// taker makes values of notes. It weighs them as it meets them, so that it ends also where lists share one another or are parts of themselves.
type taker struct {
	weight int
}

// weigh takes in one note or name more; false if that is too much.
func (t *taker) weigh(text string) bool {
	t.weight += 1 + len(text)
	return t.weight <= api.MaxText
}

// take is a note of that depth as a value, or its first fault.
func (t *taker) take(n api.Note, depth int) (value, api.Errno) {
	text := ""
	if n.Kind == api.NoteText {
		text = n.Text
	}
	nests := n.Kind == api.NoteList || n.Kind == api.NoteTable
	switch {
	case !t.weigh(text):
		return nil, api.ErrLong
	case nests && depth >= api.MaxNest:
		return nil, api.ErrNest
	case !fits(n):
		return nil, api.ErrNote
	case !isUtf(text):
		return nil, api.ErrUtf
	}
	switch n.Kind {
	case api.NoteBool:
		return truth(n.Bool), api.OK
	case api.NoteNumber:
		return number(n.Num), api.OK
	case api.NoteText:
		return words(n.Text), api.OK
	case api.NoteList:
		return t.list(n.List, depth+1)
	case api.NoteTable:
		return t.table(n.Fields, depth+1)
	}
	return null{}, api.OK
}

// list is the notes of a list, each of that depth.
func (t *taker) list(notes []api.Note, depth int) (value, api.Errno) {
	var out list
	for _, n := range notes {
		v, e := t.take(n, depth)
		if e != api.OK {
			return nil, e
		}
		out = append(out, v)
	}
	return out, api.OK
}

// table is the fields of a table, with notes of that depth.
func (t *taker) table(fields []api.Field, depth int) (value, api.Errno) {
	var out table
	seen := names{}
	for _, f := range fields {
		switch {
		case !t.weigh(f.Name):
			return nil, api.ErrLong
		case !isUtf(f.Name):
			return nil, api.ErrUtf
		case !seen.add(f.Name):
			return nil, api.ErrPair
		}
		v, e := t.take(f.Note, depth)
		if e != api.OK {
			return nil, e
		}
		out = append(out, field{f.Name, v})
	}
	return out, api.OK
}

// fits says whether a note is of one of the kinds, holds nothing that its kind doesn't use, and is no number that JSON can't say.
func fits(n api.Note) bool {
	switch n.Kind {
	case api.NoteNull:
	case api.NoteBool:
		n.Bool = false
	case api.NoteNumber:
		if !finite(n.Num) {
			return false
		}
		n.Num = 0
	case api.NoteText:
		n.Text = ""
	case api.NoteList:
		n.List = nil
	case api.NoteTable:
		n.Fields = nil
	default:
		return false
	}
	return !n.Bool && n.Num == 0 && n.Text == "" && len(n.List) == 0 && len(n.Fields) == 0
}

func finite(x float64) bool {
	return !math.IsNaN(x) && !math.IsInf(x, 0)
}

// isUtf says whether a text is UTF-8.
func isUtf(text string) bool {
	for i, c := range text {
		if broken(text[i:], c) {
			return false
		}
	}
	return true
}

// broken says whether c, to which the beginning of text came, stands for bytes that are no character: ranging tells these as FFFD, which is a character too.
func broken(text string, c rune) bool {
	return c == utf8.RuneError && !strings.HasPrefix(text, string(utf8.RuneError))
}
