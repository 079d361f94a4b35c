// Package fit says what may be an object on a shelf, part by part.
package fit

import (
	"graft/api"
	"graft/ark"
	"graft/label"
)

// Label says whether a label is printable.
func Label(l api.Label) bool {
	e, _ := label.Check(l.Name)
	return e == api.OK
}

// Refs says whether labels may be an object's references.
func Refs(l []api.Label) bool {
	if len(l) > api.MaxRefs {
		return false
	}
	for i, ref := range l {
		if !Label(ref) || i > 0 && label.Compare(l[i-1], ref) >= 0 {
			return false
		}
	}
	return true
}

// Maker says whether a text may stand for what made an object: nothing, or a label's text.
func Maker(text string) bool {
	if text == "" {
		return true
	}
	_, e, _ := label.Parse(text)
	return e == api.OK
}

// Ca says whether it is one of the ways in which a label comes from content.
func Ca(c api.Ca) bool {
	return c <= api.ByFlat
}

// Object says whether an object may be on a shelf by itself.
func Object(o api.Object) bool {
	if !Label(o.Label) || !Refs(o.Refs) || !Maker(o.Maker) || !Ca(o.Ca) {
		return false
	}
	_, e, _ := ark.Parse(o.Ark)
	return e == api.OK
}
