package engine

import (
	"slices"

	"graft/api"
	"graft/digest"
	"graft/label"
	"graft/modulo"
	"graft/shelf"
	"graft/sieve"
)

// Verify tells whether an object is what its label says.
func (e *Engine) Verify(l api.Label, chunk int) api.Outcome {
	switch {
	case e.none():
		return api.Outcome{}
	case chunk < 1:
		return api.Outcome{Err: api.ErrArg}
	}
	o, f := e.shelf.Get(l)
	if f != api.OK {
		return api.Outcome{Err: f}
	}
	return verifier{e.shelf, chunk}.verdict(o)
}

// verifier holds own objects of a shelf against their labels.
type verifier struct {
	shelf *shelf.Shelf
	chunk int
}

// verdict tells what is wrong with an object on the shelf.
func (v verifier) verdict(o api.Object) api.Outcome {
	if o.Ca == api.Guest {
		return api.Outcome{}
	}
	return firstDefect(
		func() api.Outcome { return v.misnamed(o) },
		func() api.Outcome {
			return firstOf(len(o.Refs), func(i int) api.Outcome { return v.guestly(o, i) })
		},
	)
}

// misnamed tells of a label that is not what its object's content says.
func (v verifier) misnamed(o api.Object) api.Outcome {
	if p, ok := v.prove(o); ok {
		if l, f := label.Call(p.finger); f == api.OK && l == o.Label {
			return api.Outcome{}
		}
	}
	return api.Outcome{Err: api.ErrWrong, At: o.Label}
}

// guestly tells of a reference that leads to a guest.
func (v verifier) guestly(o api.Object, i int) api.Outcome {
	if isOwn(v.shelf, o.Refs[i]) {
		return api.Outcome{}
	}
	return api.Outcome{Err: api.ErrWrong, At: o.Label, Other: o.Refs[i]}
}

// prove is what the label of an own object must be made of; false if it can be made of nothing.
func (v verifier) prove(o api.Object) (proof, bool) {
	switch o.Ca {
	case api.ByText:
		return v.proveText(o)
	case api.BySource:
		return proof{finger: api.Finger{Kind: api.FingerSource, Inner: v.sum(o.Ark), Name: o.Label.Name}}, len(o.Refs) == 0
	case api.ByFlat:
		return v.proveFlat(o)
	}
	return v.proveMember(o)
}

func (v verifier) proveText(o api.Object) (proof, bool) {
	data, ok := v.file(o.Ark)
	return proof{finger: api.Finger{Kind: api.FingerText, Refs: o.Refs, Inner: v.sum(data), Name: o.Label.Name}}, ok
}

// proveFlat has the finger of label.Fixed, as chapter 2 says it.
func (v verifier) proveFlat(o api.Object) (proof, bool) {
	data, ok := v.file(o.Ark)
	sum := v.sum(data)
	inner := digest.Of([]byte("fixed:out:sha256:" + digest.Hex(sum[:]) + ":"))
	return proof{finger: api.Finger{Kind: api.FingerOutput, Out: "out", Inner: inner, Name: o.Label.Name}}, ok && len(o.Refs) == 0
}

// file is the bytes of an archive's one file that is not executable; false if it has none.
func (v verifier) file(data []byte) ([]byte, bool) {
	n, _, _ := readTree(data, v.chunk) // the shelf has it, so it is an archive
	return n.Data, n.Kind == api.KindFile && !n.Exec
}

// sum is that of bytes that are handed on in pieces.
func (v verifier) sum(data []byte) api.Sum {
	h := digest.New()
	for piece := range slices.Chunk(data, v.chunk) {
		h.Write(piece)
	}
	return h.Sum()
}

// proveMember is the proof of one that is called after its group.
func (v verifier) proveMember(o api.Object) (proof, bool) {
	group := v.group(o.Label)
	if len(group) > api.MaxGroup {
		return proof{}, false
	}
	members := make([]api.Member, len(group))
	finder := finderOf(group)
	for i, l := range group {
		m, ok := v.member(l, group, finder)
		if !ok {
			return proof{}, false
		}
		members[i] = m
	}
	n, f, _ := modulo.Group(members) // it refuses two of one name
	return proof{fingerOf(members, 0, n.Sum), members}, f == api.OK
}

// member is an object of a group as it is named; false if it is none that is called after a group, or has mentions that overlap.
func (v verifier) member(l api.Label, group []api.Label, finder *sieve.Sieve) (api.Member, bool) {
	o, _ := v.shelf.Get(l)
	m := api.Member{Name: l.Name, Ark: o.Ark, Hits: scan(finder, o.Ark, v.chunk)}
	m.Refs = slices.DeleteFunc(o.Refs, func(ref api.Label) bool { return slices.Contains(group, ref) })
	return m, o.Ca == api.ByGroup && sieve.Overlap(m.Hits, api.Digits) < 0
}

// group is the group of an object in the shelf's graph, the object first; or more than MaxGroup members of it. What refers to one
// of its members, and is reached from it, is one too.
func (v verifier) group(l api.Label) []api.Label {
	reached, _, _ := v.shelf.Closure([]api.Label{l})
	group := []api.Label{l}
	for i := 0; i < len(group); i++ {
		for _, from := range v.shelf.Referrers(group[i]) {
			if len(group) > api.MaxGroup {
				return group
			}
			if _, in := slices.BinarySearchFunc(reached, from, label.Compare); in && !slices.Contains(group, from) {
				group = append(group, from)
			}
		}
	}
	return group
}
