package shelf

import (
	"slices"
	"sync"

	"graft/api"
	"graft/fit"
	"graft/label"
)

// object is one on the shelf. It never changes, so that a state and its copies share what it leads to.
type object struct {
	*title
	refs  []api.Label
	maker string
	ca    api.Ca
	ark   int // its ark's number
}

// title is an object's label, and the text that it has in entries.
type title struct {
	label api.Label
	once  sync.Once
	base  string
}

// text is the label's base, made when it is first asked for.
func (t *title) text() string {
	t.once.Do(func() { t.base, _ = label.Base(t.label) })
	return t.base
}

// objectOf is an object that is handed in, whose ark has this number.
func objectOf(o api.Object, ark int) object {
	return object{&title{label: o.Label}, slices.Clone(o.Refs), o.Maker, o.Ca, ark}
}

// right says whether an object may come onto a shelf that has its ark.
func (o object) right() bool {
	return fit.Label(o.label) && fit.Refs(o.refs) && fit.Maker(o.maker) && fit.Ca(o.ca)
}

// equals says whether another object of this label is the same.
func (o object) equals(x object) bool {
	return slices.Equal(o.refs, x.refs) && o.maker == x.maker && o.ca == x.ca && o.ark == x.ark
}

// refersTo says whether a label is among an object's references.
func (o object) refersTo(l api.Label) bool {
	_, found := slices.BinarySearchFunc(o.refs, l, label.Compare)
	return found
}
