package desk

import (
	"slices"

	"graft/api"
	"graft/depot"
	"graft/digest"
	"graft/shelf"
	"graft/wire"
)

const (
	packed = "gzip" // how a depot's archives are
	piece  = 100    // bytes that an intake is fed with at a time
)

func (w *world) key(g given) {
	w.keys = append(w.keys, api.Key{Name: g.words[0], Secret: g.data})
	w.say("key", g.words[0])
}

func (w *world) push(g given) {
	files, e, _ := depot.Push(w.shelf(), w.files, g.labels, w.keys, packed)
	if e == api.OK {
		w.files = files
	}
	w.sayUnless(e, "pushed", number(len(files)))
}

func (w *world) pull(g given) {
	labels, e, _ := depot.Pull(w.shelf(), w.files, g.labels, w.keys)
	if e != api.OK {
		w.refuse(e)
		return
	}
	w.sayBases("pulled", labels)
}

func (w *world) tellFiles(given) {
	w.say("files", number(len(w.files)))
	for _, f := range w.files {
		w.say(f.Name, number(len(f.Data)), sum(f.Data))
	}
}

// turn puts a byte into a file: the files are the play's own.
func (w *world) turn(g given) {
	f := w.files[g.numbers[0]]
	f.Data[g.numbers[1]] = byte(g.numbers[2])
	w.say("turn", f.Name)
}

func (w *world) carry(g given) {
	guests, e := guestsOf(w.shelf(), g.labels)
	if e == api.OK {
		guests, e = streamed(guests)
	}
	if e != api.OK {
		w.refuse(e)
		return
	}
	w.importTo(w.stores[g.numbers[0]-1], guests, "carried")
}

// guestsOf is the guests among all that roots lead to.
func guestsOf(s *shelf.Shelf, roots []api.Label) ([]api.Object, api.Errno) {
	labels, e, _ := s.Closure(roots)
	var out []api.Object
	for _, l := range labels {
		if o, _ := s.Get(l); o.Ca == api.Guest {
			out = append(out, o)
		}
	}
	return out, e
}

// streamed is objects as they come out of a stream of them.
func streamed(objects []api.Object) ([]api.Object, api.Errno) {
	stream, e := wire.Export(objects)
	if e != api.OK {
		return nil, e
	}
	in := wire.NewIntake()
	for p := range slices.Chunk(stream, piece) {
		if e, _ := in.Feed(p); e != api.OK {
			return nil, e
		}
	}
	objects, e, _ = in.Close()
	return objects, e
}

func (w *world) ask(g given) {
	words := []string{"said"}
	if out := wire.NewSession(w.engine()).Feed(g.data); len(out) > 0 {
		words = append(words, digest.Hex(out))
	}
	w.say(words...)
}
