package desk

import (
	"strings"

	"graft/api"
	"graft/engine"
	"graft/journal"
	"graft/label"
	"graft/shelf"
)

const (
	limit = 1 << 20 // of each store's journal
	chunk = 16      // bytes that an engine hands on at a time
)

// store is an engine, and the device that it is on.
type store struct {
	device *journal.Device
	engine *engine.Engine
}

// opened is a store on a new device. It opens: the disk is empty, or what a store's own device held at some moment.
func opened(d api.Disk) store {
	v := journal.NewDevice(d)
	e, _, _, _ := engine.Open(v, limit)
	return store{v, e}
}

// world is all that a play goes by, and what it has told so far.
type world struct {
	stores  [4]store
	present int // a store's place
	files   []api.DepotFile
	keys    []api.Key
	nicks   nicks
	staged  []api.Object
	known   []api.Known
	out     strings.Builder
}

func newWorld() *world {
	w := &world{nicks: newNicks()}
	for i := range w.stores {
		w.stores[i] = opened(api.Disk{})
	}
	return w
}

func (w *world) engine() *engine.Engine { return w.stores[w.present].engine }

func (w *world) shelf() *shelf.Shelf { return w.engine().Shelf() }

// say tells a line of words.
func (w *world) say(words ...string) {
	for i, word := range words {
		if i > 0 {
			w.out.WriteByte(' ')
		}
		w.out.WriteString(word)
	}
	w.out.WriteByte('\n')
}

// sayBases tells how many labels there are, and each of them.
func (w *world) sayBases(word string, labels []api.Label) {
	w.say(word, number(len(labels)))
	for _, l := range labels {
		w.say(base(l))
	}
}

// saySames tells how many labels were renamed, and each with its new one.
func (w *world) saySames(word string, sames []api.Same) {
	w.say(word, number(len(sames)))
	for _, s := range sames {
		w.say(base(s.Old), base(s.New))
	}
}

// base is how a label is told.
func base(l api.Label) string {
	text, e := label.Base(l)
	if e != api.OK {
		return "?"
	}
	return text
}

// refuse tells an error.
func (w *world) refuse(e api.Errno) {
	w.say("no", number(int(e)))
}

// refuseFor tells an outcome's error, and the labels that it is about.
func (w *world) refuseFor(o api.Outcome) {
	words := []string{"no", number(int(o.Err))}
	for _, l := range []api.Label{o.At, o.Other} {
		if l == (api.Label{}) {
			break
		}
		words = append(words, base(l))
	}
	w.say(words...)
}

// sayUnless tells a line of words; or an error, if there is one.
func (w *world) sayUnless(e api.Errno, words ...string) {
	if e != api.OK {
		w.refuse(e)
		return
	}
	w.say(words...)
}
