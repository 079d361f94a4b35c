package ark

import (
	"graft/api"
	"graft/lay"
)

// state is what a reader does as soon as the bytes are there for which it waits; it answers the state behind it, or none if something is wrong.
type state func(r *Reader) state

// form is which of the grammar's things a word is.
type form int

const (
	formWord form = iota // a word of the grammar itself
	formName
	formLink
	formData
)

// Reader takes an archive piece by piece.
type Reader struct {
	present state     // none ahead of the first Feed, and where something is wrong
	need    int       // how many bytes it waits for
	held    []byte    // those of them that are there
	fed     int       // bytes that were read
	fault   api.Errno // what is wrong
	place   int       // and where
	done    bool

	// The word that comes.
	at   int
	form form
	may  []word // of the grammar's own: those that it may be
	then state  // what goes on when it is there, its padding too

	// What the words said that came last.
	said word
	text string // a name's or a link's
	data []byte

	// The tree, as far as it has come.
	open  []api.Entry // the nodes that have not ended, each within the one ahead of it
	nodes int
	tree  api.Node
}

// NewReader is a reader that has taken nothing.
func NewReader() *Reader {
	return &Reader{}
}

// Feed takes a piece.
func (r *Reader) Feed(p []byte) (api.Errno, int) {
	if r == nil {
		return api.OK, 0
	}
	if r.done {
		return api.ErrDone, 0
	}
	if r.present == nil {
		r.present = begin(r)
	}
	for {
		n := min(r.need-len(r.held), len(p))
		r.held = append(r.held, p[:n]...)
		r.fed += n
		p = p[n:]
		if len(r.held) < r.need {
			return api.OK, 0
		}
		r.present = r.present(r)
		if r.present == nil {
			e, at := r.fault, r.place
			*r = Reader{done: true}
			return e, at
		}
	}
}

// Close is the tree, when all has been taken.
func (r *Reader) Close() (api.Node, api.Errno, int) {
	if r == nil {
		return api.Node{}, api.OK, 0
	}
	if r.done {
		return api.Node{}, api.ErrDone, 0
	}
	tree, fed, whole := r.tree, r.fed, r.isWhole()
	*r = Reader{done: true}
	if !whole {
		return api.Node{}, api.ErrShort, fed
	}
	return tree, api.OK, 0
}

// isWhole tells whether the tree has begun and ended.
func (r *Reader) isWhole() bool {
	return r.nodes > 0 && len(r.open) == 0
}

// fail keeps the fault for Feed to tell; no state comes behind it.
func (r *Reader) fail(e api.Errno, at int) state {
	r.fault, r.place = e, at
	return nil
}

// wait lets the next n bytes come ahead of a state.
func (r *Reader) wait(n int, s state) state {
	r.need = n
	r.held = r.held[:0]
	return s
}

// await lets a word of the grammar come, one of those that may, ahead of a state.
func (r *Reader) await(then state, may ...word) state {
	r.may = may
	return r.awaitForm(then, formWord)
}

// awaitForm lets a word come, ahead of a state.
func (r *Reader) awaitForm(then state, f form) state {
	r.at, r.form, r.then = r.fed, f, then
	return r.wait(lay.NumberSize, readLength)
}

// readLength has a word's length, and lets its text come.
func readLength(r *Reader) state {
	length := uint64(0)
	for i, b := range r.held {
		length |= uint64(b) << (8 * i)
	}
	// Asked ahead of the sum: eight bytes can say more than an int holds.
	if length > api.MaxArk || r.at+lay.WordSize(int(length)) > api.MaxArk {
		return r.fail(api.ErrLarge, r.at)
	}
	n := int(length)
	if e := r.lengthFault(n); e != api.OK {
		return r.fail(e, r.at)
	}
	if r.form == formData {
		r.held = nil // they become the file's own
	}
	return r.wait(n, readText)
}

// lengthFault is why the word that comes may not have n bytes.
func (r *Reader) lengthFault(n int) api.Errno {
	switch r.form {
	case formWord:
		for _, w := range r.may {
			if len(w.text()) == n {
				return api.OK
			}
		}
		return api.ErrToken
	case formName:
		if !isNameLength(n) {
			return api.ErrEntry
		}
	case formLink:
		if !isTargetLength(n) {
			return api.ErrLink
		}
	}
	return api.OK
}

// readText has a word's text, and lets its padding come.
func readText(r *Reader) state {
	e, at := api.OK, 0
	switch r.form {
	case formWord:
		e, at = r.takeWord()
	case formName:
		e, at = r.takeName()
	case formLink:
		e, at = r.takeLink()
	case formData:
		r.data, r.held = r.held, nil
	}
	if e != api.OK {
		return r.fail(e, at)
	}
	return padded(r)
}

// padded goes on behind the word, if no padding is left of it.
func padded(r *Reader) state {
	// Words begin at multiples of eight, so the place alone tells where they end.
	if r.fed%lay.NumberSize == 0 {
		return r.then(r)
	}
	return r.wait(1, readPadding)
}

// readPadding has one byte of padding.
func readPadding(r *Reader) state {
	if r.held[0] != 0 {
		return r.fail(api.ErrPadding, r.fed-1)
	}
	return padded(r)
}

// readTail has a byte behind the archive's end.
func readTail(r *Reader) state {
	return r.fail(api.ErrTail, r.fed-1)
}

// takeWord keeps which word of the grammar is there.
func (r *Reader) takeWord() (api.Errno, int) {
	for _, w := range r.may {
		if w.text() == string(r.held) {
			r.said = w
			return api.OK, 0
		}
	}
	return api.ErrToken, r.at
}

// takeName keeps the name that is there.
func (r *Reader) takeName() (api.Errno, int) {
	r.text = string(r.held)
	if bar := nameBar(r.text); bar >= 0 {
		return api.ErrEntry, r.at + lay.NumberSize + bar
	}
	if isDots(r.text) {
		return api.ErrEntry, r.at
	}
	list := r.top().List
	if len(list) > 0 && r.text <= list[len(list)-1].Name {
		return api.ErrOrder, r.at
	}
	return api.OK, 0
}

// takeLink keeps the link's text that is there.
func (r *Reader) takeLink() (api.Errno, int) {
	r.text = string(r.held)
	if bar := targetBar(r.text); bar >= 0 {
		return api.ErrLink, r.at + lay.NumberSize + bar
	}
	return api.OK, 0
}
