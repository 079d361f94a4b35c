package desk

import (
	"graft/api"
	"graft/ark"
	"graft/digest"
)

func (w *world) store(g given) {
	w.present = g.numbers[0] - 1
	w.say("store", number(g.numbers[0]))
}

func (w *world) label(g given) {
	l := api.Label{Hash: g.hash, Name: g.words[1]}
	w.standsFor(g.words[0], l, "label")
}

// standsFor lets a nick stand for a label, and tells it behind a word.
func (w *world) standsFor(nick string, l api.Label, word string) {
	w.nicks.first[nick] = l
	w.say(word, nick, base(l))
}

func (w *world) guest(g given) {
	w.stage("guest", g, api.Node{Kind: api.KindFile, Data: []byte(g.rest)})
}

func (w *world) link(g given) {
	w.stage("link", g, api.Node{Kind: api.KindLink, Link: g.rest})
}

// stage lays a guest by, that it may be imported with others.
func (w *world) stage(word string, g given, n api.Node) {
	data, e := ark.Print(n)
	if e == api.OK {
		w.staged = append(w.staged, api.Object{Label: g.labels[0], Refs: g.named, Ark: data})
	}
	w.sayUnless(e, word, g.words[0])
}

func (w *world) imports(given) {
	objects := w.staged
	w.staged = nil
	w.importTo(w.stores[w.present], objects, "imported")
}

// importTo imports guests, and tells behind a word how many they were.
func (w *world) importTo(s store, objects []api.Object, word string) {
	if o := s.engine.Import(objects, chunk); o.Err != api.OK {
		w.refuseFor(o)
		return
	}
	w.say(word, number(len(objects)))
}

func (w *world) text(g given) {
	w.added("text", g.words[0], w.engine().AddText(g.words[1], []byte(g.rest), g.named))
}

func (w *world) tree(g given) {
	file := api.Node{Kind: api.KindFile, Exec: true, Data: []byte(g.rest)}
	n := api.Node{Kind: api.KindDir, List: []api.Entry{{Name: "file", Node: file}}}
	w.added("tree", g.words[0], w.engine().AddTree(g.words[1], n))
}

// added lets a nick stand for what was added; and tells whether it was.
func (w *world) added(word, nick string, o api.Outcome) bool {
	if o.Err != api.OK {
		w.refuseFor(o)
		return false
	}
	w.standsFor(nick, o.At, word)
	return true
}

func (w *world) rewrite(g given) {
	o := w.engine().Rewrite(g.labels, chunk)
	if o.Err != api.OK {
		w.refuseFor(o)
		return
	}
	w.nicks.renamed(o.Map)
	w.saySames("renamed", o.Map)
}

func (w *world) lookup(g given) {
	l, e := w.engine().Lookup(g.labels[0])
	w.sayUnless(e, "lookup", base(l))
}

func (w *world) verify(g given) {
	if o := w.engine().Verify(g.labels[0], chunk); o.Err != api.OK {
		w.refuseFor(o)
		return
	}
	w.say("right")
}

func (w *world) show(g given) {
	o, e := w.engine().Read(g.labels[0])
	if e != api.OK {
		w.refuse(e)
		return
	}
	w.say("show", base(o.Label), "ca="+number(int(o.Ca)), "refs="+number(len(o.Refs)), "size="+number(len(o.Ark)), "sum="+sum(o.Ark))
}

// sum is how the sum of bytes is told.
func sum(data []byte) string { return digest.Show(digest.Of(data), api.Form32) }

func (w *world) list(given) { w.sayBases("list", w.shelf().List()) }

func (w *world) sames(given) { w.saySames("sames", w.shelf().Sames()) }
