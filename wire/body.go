package wire

import (
	"bytes"

	"graft/api"
	"graft/fit"
	"graft/label"
	"graft/lay"
)

// readBody is the object that a body is, in new memory; false if it isn't that of a right one.
func readBody(body []byte) (api.Object, bool) {
	r := lay.NewReader(body)
	var o api.Object
	o.Label = readLabel(&r)
	o.Refs = readRefs(&r)
	o.Maker = string(r.Word())
	o.Ca = readCa(&r)
	o.Ark = r.Word()
	if r.Broken() || r.Left() > 0 || !fit.Object(o) {
		return api.Object{}, false
	}
	o.Ark = bytes.Clone(o.Ark)
	return o, true
}

// readLabel is the label whose text comes; if it is none, the zero one, which no right object has.
func readLabel(r *lay.Reader) api.Label {
	l, _, _ := label.Parse(string(r.Word()))
	return l
}

func readRefs(r *lay.Reader) []api.Label {
	n := r.Number()
	if n < 0 || n > api.MaxRefs {
		r.Break()
		return nil
	}
	var out []api.Label
	for range n {
		out = append(out, readLabel(r))
	}
	return out
}

// readCa looks at the whole number: a Ca would hold its lowest byte alone.
func readCa(r *lay.Reader) api.Ca {
	n := r.Number()
	if n < 0 || n > int(api.ByFlat) {
		r.Break()
	}
	return api.Ca(n)
}
