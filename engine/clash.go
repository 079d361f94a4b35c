package engine

import (
	"bytes"
	"slices"

	"graft/api"
	"graft/label"
	"graft/modulo"
)

// clashing tells of another thing with the hash part of a guest's new label. Of the guests that get one hash part the first tells
// for all: if another one differs from it, it is the first that has the defect, and if none does, all are as it is.
func (w *renaming) clashing(i int) api.Outcome {
	x := w.objects[i]
	if !x.guest || w.shares[x.name.Hash][0] != i {
		return api.Outcome{}
	}
	return firstDefect(
		func() api.Outcome { return w.onShelf(i) },
		func() api.Outcome { return w.firstSharing(i, w.otherName) },
		func() api.Outcome { return w.firstSharing(i, w.otherContent) },
	)
}

// onShelf tells of an object on the shelf that is not what a guest is renamed to.
func (w *renaming) onShelf(i int) api.Outcome {
	x := w.objects[i]
	l, f := w.shelf.Named(x.name.Hash)
	if f != api.OK {
		return api.Outcome{}
	}
	o, _ := w.shelf.Get(l)
	if l == x.name && o.Ca == api.ByGroup && bytes.Equal(o.Ark, w.archiveOf(i).data) && slices.Equal(o.Refs, x.newRefs) {
		return api.Outcome{}
	}
	v := verifier{w.shelf, w.chunk}
	var its proof
	if o.Ca != api.Guest && v.verdict(o).Err == api.OK {
		its, _ = v.prove(o)
	}
	return w.clash(i, l, its)
}

// firstSharing asks each guest that gets the same hash part, in order.
func (w *renaming) firstSharing(i int, ask func(i, k int) api.Outcome) api.Outcome {
	guests := w.shares[w.objects[i].name.Hash]
	return firstOf(len(guests), func(n int) api.Outcome { return ask(i, guests[n]) })
}

// otherName tells of a guest that gets the same hash part with another name.
func (w *renaming) otherName(i, k int) api.Outcome {
	if w.objects[i].name == w.objects[k].name {
		return api.Outcome{}
	}
	return w.clash(i, w.objects[k].name, w.proofOf(k))
}

// otherContent tells of a guest that gets the same label, and holds another thing.
func (w *renaming) otherContent(i, k int) api.Outcome {
	if bytes.Equal(w.archiveOf(i).data, w.archiveOf(k).data) && slices.Equal(w.objects[i].newRefs, w.objects[k].newRefs) {
		return api.Outcome{}
	}
	return w.clash(i, w.labels[k], w.proofOf(k))
}

// clash is what is told of a guest, and of another thing that has the hash part of its new label.
func (w *renaming) clash(i int, other api.Label, its proof) api.Outcome {
	out := api.Outcome{Err: api.ErrClash, At: w.labels[i], Other: other}
	out.First, out.Second = w.proofOf(i).against(its)
	return out
}

// proofOf is what a guest's new label is made of.
func (w *renaming) proofOf(i int) proof {
	return proof{w.objects[i].finger, w.members(w.groupOf(i))}
}

// proof is what a label is made of: a finger, and of one by a group its members. The zero proof is none.
type proof struct {
	finger  api.Finger
	members []api.Member
}

// against is two texts that have one sum folded: the fingers', or the groups' if these are the same. Where there is no other proof
// the second is none.
func (p proof) against(other proof) ([]byte, []byte) {
	first, second := p.fingerText(), other.fingerText()
	if !bytes.Equal(first, second) {
		return first, second
	}
	return p.groupText(), other.groupText()
}

func (p proof) fingerText() []byte {
	text, f := label.Say(p.finger)
	if f != api.OK {
		return nil
	}
	return []byte(text)
}

func (p proof) groupText() []byte {
	n, _, _ := modulo.Group(p.members)
	return n.Text
}
