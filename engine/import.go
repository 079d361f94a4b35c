package engine

import (
	"bytes"
	"slices"

	"graft/api"
	"graft/ark"
	"graft/fit"
	"graft/shelf"
)

// Import puts objects on the shelf as guests, their archives read in pieces of so many bytes.
func (e *Engine) Import(objects []api.Object, chunk int) api.Outcome {
	switch {
	case e.none():
		return api.Outcome{}
	case chunk < 1:
		return api.Outcome{Err: api.ErrArg}
	case len(objects) > api.MaxObjects:
		return api.Outcome{Err: api.ErrLong}
	}
	in := arrival{e.shelf, objects, chunk, labelsOf(objects)}
	return firstDefect(
		func() api.Outcome { return firstOf(len(objects), in.unfit) },
		func() api.Outcome { return firstOf(len(objects), in.dangling) },
		in.put,
	)
}

// arrival is objects that are to come onto a shelf.
type arrival struct {
	shelf   *shelf.Shelf
	objects []api.Object
	chunk   int
	labels  map[api.Label]struct{}
}

// labelsOf is the labels of objects.
func labelsOf(objects []api.Object) map[api.Label]struct{} {
	out := make(map[api.Label]struct{}, len(objects))
	for _, o := range objects {
		out[o.Label] = struct{}{}
	}
	return out
}

// unfit tells what is wrong with an object by itself.
func (in *arrival) unfit(i int) api.Outcome {
	o := in.objects[i]
	if !fit.Label(o.Label) || !fit.Refs(o.Refs) || !fit.Maker(o.Maker) || o.Ca != api.Guest {
		return api.Outcome{Err: api.ErrObject, At: o.Label, Place: i}
	}
	if _, f, at := readTree(o.Ark, in.chunk); f != api.OK {
		return api.Outcome{Err: api.ErrArk, At: o.Label, Place: at}
	}
	return api.Outcome{}
}

// dangling tells of a reference that leads nowhere.
func (in *arrival) dangling(i int) api.Outcome {
	o := in.objects[i]
	for _, ref := range o.Refs {
		if _, comes := in.labels[ref]; !comes && !in.shelf.Has(ref) {
			return api.Outcome{Err: api.ErrDangling, At: o.Label, Other: ref, Place: i}
		}
	}
	return api.Outcome{}
}

// put is the one transaction, unless all objects are there.
func (in *arrival) put() api.Outcome {
	steps := make([]api.Step, len(in.objects))
	there := true
	for i, o := range in.objects {
		steps[i] = api.Step{Kind: api.StepPut, Object: o}
		there = there && isThere(in.shelf, o)
	}
	if there {
		return api.Outcome{}
	}
	f, at := in.shelf.Apply(steps)
	out := api.Outcome{Err: f, Place: at}
	if at < len(in.objects) {
		out.At = in.objects[at].Label
	}
	return out
}

// isThere says whether an object is on a shelf just as it is.
func isThere(s *shelf.Shelf, o api.Object) bool {
	x, f := s.Get(o.Label)
	return f == api.OK && x.Ca == o.Ca && x.Maker == o.Maker && slices.Equal(x.Refs, o.Refs) && bytes.Equal(x.Ark, o.Ark)
}

// readTree is ark.Parse of an archive that is handed on in pieces of so many bytes.
func readTree(data []byte, chunk int) (api.Node, api.Errno, int) {
	r := ark.NewReader()
	for piece := range slices.Chunk(data, chunk) {
		if f, at := r.Feed(piece); f != api.OK {
			return api.Node{}, f, at
		}
	}
	return r.Close()
}
