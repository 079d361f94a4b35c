// Package fit says what may be a part of an object on a shelf.
package fit

import (
	"graft/api"
	"graft/label"
)

// Label says whether a label is printable.
func Label(l api.Label) bool {
	e, _ := label.Check(l.Name)
	return e == api.OK
}

// Refs says whether labels may be an object's references.
func Refs(l []api.Label) bool {
	if len(l) > api.MaxRefs {
		return false
	}
	for i, ref := range l {
		if !Label(ref) || i > 0 && label.Compare(l[i-1], ref) >= 0 {
			return false
		}
	}
	return true
}

// Maker says whether a text may stand for what made an object: nothing, or a label's text.
func Maker(text string) bool {
	if text == "" {
		return true
	}
	_, e, _ := label.Parse(text)
	return e == api.OK
}
