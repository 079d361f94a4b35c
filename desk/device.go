package desk

import (
	"graft/api"
	"graft/note"
)

func (w *world) compact(given) {
	w.sayUnless(w.shelf().Compact(), "compact")
}

// crash goes on with what the present store's device would have held if the power had failed some operations ago.
func (w *world) crash(g given) {
	v := w.stores[w.present].device
	done := max(0, v.Count()-g.numbers[0])
	disk, _ := v.At(done, [2]int{g.numbers[1], g.numbers[2]}) // there was such a moment
	w.stores[w.present] = opened(disk)
	w.say("crash", number(w.shelf().Last()))
}

func (w *world) stat(given) {
	s := w.shelf().Stat()
	text, _ := note.Canon(table( // a small table is a note that may be
		count("arks", s.Arks),
		count("bytes", s.Bytes),
		api.Field{Name: "full", Note: numeral(fullness(s))},
		count("mades", s.Mades),
		count("objects", s.Objects),
		count("sames", s.Sames),
		count("values", s.Values),
	))
	w.say(text)
}

// fullness is which part of a store's room its journal takes.
func fullness(s api.Stat) float64 {
	if s.Journal+s.Room == 0 {
		return 0
	}
	return float64(s.Journal) / float64(s.Journal+s.Room)
}

func numeral(x float64) api.Note { return api.Note{Kind: api.NoteNumber, Num: x} }

func count(name string, n int) api.Field {
	return api.Field{Name: name, Note: numeral(float64(n))}
}

func table(fields ...api.Field) api.Note { return api.Note{Kind: api.NoteTable, Fields: fields} }
