package desk

import (
	"graft/api"
	"graft/forge"
	"graft/label"
	"graft/modulo"
	"graft/recipe"
)

const (
	suffix  = ".recipe" // behind the name of a recipe's label
	workers = 2         // of the forge
)

// filled is a recipe of which all is known that its label and its outputs' labels are made of.
type filled struct {
	text string
	refs []api.Label
	sum  api.Sum
}

// fill reads a recipe's text, and puts in what follows from its name and the recipes that are known.
func fill(name, text string, known []api.Known) (filled, api.Errno) {
	r, e, _ := recipe.Read(text)
	if e != api.OK {
		return filled{}, e
	}
	r, e, _ = modulo.Fill(name, r, known)
	if e != api.OK {
		return filled{}, e
	}
	text, e, _ = recipe.Print(r)
	if e != api.OK {
		return filled{}, e
	}
	refs, _ := recipe.Refs(r)                // what was printed has labels' texts there
	sum, _, _ := modulo.Hash(name, r, known) // as Fill has made it of
	return filled{text, refs, sum}, api.OK
}

func (w *world) recipe(g given) {
	nick, name := g.words[0], g.words[1]
	f, e := fill(name, g.rest, w.known)
	if e != api.OK {
		w.refuse(e)
		return
	}
	o := w.engine().AddText(name+suffix, []byte(f.text), f.refs)
	if w.added("recipe", nick, o) {
		text, _ := label.Print(o.At) // an object's label is printable
		w.known = append(w.known, api.Known{Recipe: text, Sum: f.sum})
	}
}

func (w *world) makes(g given) {
	f, e := forge.Make(w.shelf(), []api.Want{{Recipe: g.labels[0]}}, workers)
	if e != api.OK {
		w.refuse(e)
		return
	}
	w.say("made", number(len(f.Mades)))
	for _, m := range f.Mades {
		w.say(m.Key, base(m.Label))
	}
}
