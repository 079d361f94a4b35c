package engine

import (
	"graft/api"
	"graft/ark"
	"graft/digest"
	"graft/label"
	"graft/shelf"
)

// AddText puts a text on the shelf, called after its content.
func (e *Engine) AddText(name string, data []byte, refs []api.Label) api.Outcome {
	if e.none() {
		return api.Outcome{}
	}
	l, f := label.Text(name, data, refs)
	if f != api.OK {
		return api.Outcome{Err: f}
	}
	a := addition{shelf: e.shelf, object: api.Object{Label: l, Refs: label.Sort(refs), Ca: api.ByText}}
	return a.outcome(firstDefect(
		func() api.Outcome { return a.lay(api.Node{Kind: api.KindFile, Data: data}) },
		func() api.Outcome { return firstOf(len(a.object.Refs), a.dangling) },
		func() api.Outcome {
			a.mentions = mentionsOf(a.object.Refs, data)
			return firstOf(len(a.object.Refs), a.unmentioned)
		},
		a.put,
	))
}

// AddTree puts a tree on the shelf, called after its content.
func (e *Engine) AddTree(name string, n api.Node) api.Outcome {
	if e.none() {
		return api.Outcome{}
	}
	a := addition{shelf: e.shelf, object: api.Object{Ca: api.BySource}}
	if out := a.lay(n); out.Err != api.OK {
		return out
	}
	l, f := label.Source(name, digest.Of(a.object.Ark), nil, false)
	if f != api.OK {
		return api.Outcome{Err: f}
	}
	a.object.Label = l
	return a.outcome(a.put())
}

// addition is an own object that is to come onto a shelf.
type addition struct {
	shelf    *shelf.Shelf
	object   api.Object
	mentions []bool // of each reference, whether it is mentioned
}

// outcome is what is told of an addition: its label too.
func (a *addition) outcome(out api.Outcome) api.Outcome {
	out.At = a.object.Label
	return out
}

// lay makes the archive; or tells why there is none.
func (a *addition) lay(n api.Node) api.Outcome {
	data, f := ark.Print(n)
	a.object.Ark = data
	return api.Outcome{Err: f}
}

// dangling tells of a reference that is no own object on the shelf.
func (a *addition) dangling(i int) api.Outcome {
	if ref := a.object.Refs[i]; !isOwn(a.shelf, ref) {
		return api.Outcome{Err: api.ErrDangling, Other: ref}
	}
	return api.Outcome{}
}

// unmentioned tells of a reference that is not mentioned.
func (a *addition) unmentioned(i int) api.Outcome {
	if !a.mentions[i] {
		return api.Outcome{Err: api.ErrScan, Other: a.object.Refs[i]}
	}
	return api.Outcome{}
}

// mentionsOf says of each of some labels on a shelf whether bytes mention it.
func mentionsOf(labels []api.Label, data []byte) []bool {
	out := make([]bool, len(labels))
	for _, h := range finderOf(labels).Scan(data) {
		out[h.Which] = true
	}
	return out
}

// put is the one transaction, unless the object is there.
func (a *addition) put() api.Outcome {
	if isThere(a.shelf, a.object) {
		return api.Outcome{}
	}
	f, _ := a.shelf.Apply([]api.Step{{Kind: api.StepPut, Object: a.object}})
	out := api.Outcome{Err: f}
	if f == api.ErrClash || f == api.ErrThere {
		out.Other, _ = a.shelf.Named(a.object.Label.Hash)
	}
	return out
}
