package desk

import (
	"graft/api"
	"graft/sweep"
)

func (w *world) keep(g given) {
	w.sayUnless(sweep.Keep(w.shelf(), g.words[0], g.labels[0]), "kept", g.words[0])
}

func (w *world) release(g given) {
	w.sayUnless(sweep.Release(w.shelf(), g.words[0]), "released", g.words[0])
}

func (w *world) advance(g given) {
	n, e := sweep.Advance(w.shelf(), g.words[0], g.labels[0])
	w.sayUnless(e, g.words[0], "at", number(n))
}

func (w *world) switches(g given) {
	e := sweep.Switch(w.shelf(), g.words[0], g.numbers[0])
	w.sayUnless(e, g.words[0], "at", number(g.numbers[0]))
}

func (w *world) trim(g given) {
	n, e := sweep.Trim(w.shelf(), g.words[0], g.numbers[0])
	w.sayUnless(e, g.words[0], "less", number(n))
}

func (w *world) live(given) { w.sayBases("live", sweep.Live(w.shelf(), nil)) }

// collect tells what went also if it ended with an error.
func (w *world) collect(g given) {
	gone, freed, e := sweep.Collect(w.shelf(), nil, g.numbers[0])
	w.say("swept", number(len(gone)), "freed", number(freed))
	for _, l := range gone {
		w.say(base(l))
	}
	if e != api.OK {
		w.refuse(e)
	}
}
