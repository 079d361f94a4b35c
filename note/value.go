package note

import (
	"slices"

	"graft/api"
)

// value is a note inside. What may not be can't be said by it: each kind has a type of its own, which holds no more than the kind does.
type value interface {
	// note is the value as it is handed out, with all its lists in new memory.
	note() api.Note
}

type (
	null   struct{}
	truth  bool
	number float64
	words  string
	list   []value
	table  []field
)

type field struct {
	name  string
	value value
}

func (null) note() api.Note { return api.Note{Kind: api.NoteNull} }

func (b truth) note() api.Note { return api.Note{Kind: api.NoteBool, Bool: bool(b)} }

func (x number) note() api.Note { return api.Note{Kind: api.NoteNumber, Num: float64(x)} }

func (s words) note() api.Note { return api.Note{Kind: api.NoteText, Text: string(s)} }

func (l list) note() api.Note {
	out := make([]api.Note, len(l))
	for i, v := range l {
		out[i] = v.note()
	}
	return api.Note{Kind: api.NoteList, List: out}
}

func (t table) note() api.Note {
	out := make([]api.Field, len(t))
	for i, f := range t {
		out[i] = api.Field{Name: f.name, Note: f.value.note()}
	}
	return api.Note{Kind: api.NoteTable, Fields: out}
}

// names is where each name of a table stands.
type names map[string]int

// add takes one name more; false if it is there already.
func (n names) add(name string) bool {
	if _, there := n[name]; there {
		return false
	}
	n[name] = len(n)
	return true
}

func equal(a, b value) bool {
	switch x := a.(type) {
	case null:
		_, ok := b.(null)
		return ok
	case truth:
		y, ok := b.(truth)
		return ok && x == y
	case number:
		y, ok := b.(number)
		return ok && x == y
	case words:
		y, ok := b.(words)
		return ok && x == y
	case list:
		y, ok := b.(list)
		return ok && slices.EqualFunc(x, y, equal)
	case table:
		y, ok := b.(table)
		return ok && x.equal(y)
	}
	return false
}

func (t table) equal(other table) bool {
	places := names{}
	for _, f := range other {
		places.add(f.name)
	}
	for _, f := range t {
		i, there := places[f.name]
		if !there || !equal(f.value, other[i].value) {
			return false
		}
	}
	return len(t) == len(other)
}
