package shelf

import (
	"iter"

	"graft/api"
	"graft/label"
	"graft/lay"
)

// Kinds of entries, by the bytes with which they begin; 0 is one that could not be read.
const (
	entryArk byte = 1 + iota
	entryPut
	entryDrop
	entrySame
	entryMade
	entryValue
	entryVoid
)

// entry is one change of the tables. A field that its kind does not use is zero.
type entry struct {
	kind   byte
	data   []byte    // an ark's or a value's; a part of other memory
	object object    // the one that comes
	old    api.Label // what was renamed
	label  api.Label // the one that goes; what a same or a made leads to
	key    string    // a made's or a value's
}

// lay lays an entry down behind what is there.
func (t *tables) lay(out []byte, x entry) []byte {
	out = append(out, x.kind)
	switch x.kind {
	case entryArk:
		return lay.Text(out, x.data)
	case entryPut:
		return t.layObject(out, x.object)
	case entryDrop:
		return t.layLabel(out, x.label)
	case entrySame:
		return t.layLabel(t.layLabel(out, x.old), x.label)
	case entryMade:
		return t.layLabel(lay.Text(out, x.key), x.label)
	case entryValue:
		return lay.Text(lay.Text(out, x.key), x.data)
	}
	return lay.Text(out, x.key)
}

func (t *tables) layObject(out []byte, o object) []byte {
	out = lay.Text(out, o.text())
	out = lay.Half(out, uint32(len(o.refs)))
	for _, ref := range o.refs {
		out = t.layLabel(out, ref)
	}
	out = append(lay.Text(out, o.maker), byte(o.ca))
	return lay.Half(out, uint32(o.ark))
}

// layLabel lays down the text of a label: the one that is kept, if it is that of an object on the shelf.
func (t *tables) layLabel(out []byte, l api.Label) []byte {
	if o, there := t.find(l); there {
		return lay.Text(out, o.text())
	}
	base, _ := label.Base(l)
	return lay.Text(out, base)
}

// entriesOf goes over the entries of payloads, each with the number of its payload, up to one that can't be read.
func entriesOf(payloads [][]byte) iter.Seq2[int, entry] {
	return func(yield func(int, entry) bool) {
		for i, payload := range payloads {
			r := reader{lay.NewReader(payload)}
			for r.Left() > 0 {
				x := r.entry()
				if !yield(i, x) || x.kind == 0 {
					return
				}
			}
		}
	}
}

// reader takes entries off the front of a payload.
type reader struct {
	lay.Reader
}

// entry takes an entry off; its kind is 0 if it can't be read.
func (r *reader) entry() entry {
	x := entry{kind: r.Octet()}
	switch x.kind {
	case entryArk:
		x.data = r.Text()
	case entryPut:
		x.object = r.object()
	case entryDrop:
		x.label = r.label()
	case entrySame:
		x.old, x.label = r.label(), r.label()
	case entryMade:
		x.key, x.label = string(r.Text()), r.label()
	case entryValue:
		x.key, x.data = string(r.Text()), r.Text()
	case entryVoid:
		x.key = string(r.Text())
	default:
		r.Break()
	}
	if r.Broken() {
		return entry{}
	}
	return x
}

func (r *reader) object() object {
	o := object{title: &title{label: r.label()}}
	for n := r.Half(); n > 0 && !r.Broken(); n-- {
		o.refs = append(o.refs, r.label())
	}
	o.maker = string(r.Text())
	o.ca = api.Ca(r.Octet())
	o.ark = r.Half()
	return o
}

func (r *reader) label() api.Label {
	l, e, _ := label.ParseBase(string(r.Text()))
	if e != api.OK {
		r.Break()
	}
	return l
}
