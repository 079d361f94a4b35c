package depot

import (
	"bytes"
	"slices"
	"strings"

	"graft/api"
	"graft/card"
	"graft/digest"
)

// How a depot's files are called.
const (
	ownName  = "depot.card" // the depot's own card
	cardTail = ".card"      // behind a hash part
	arkHead  = "ark/"       // ahead of a sum's digits
	arkTail  = ".ark"       // behind them
	gzipTail = ".gz"        // behind that, if it is packed
)

// holding is what a depot holds under a name.
type holding interface {
	// file is the file that it is.
	file() api.DepotFile
	// tells is what it says of an object; false if it is no card.
	tells() (told, bool)
	// defect is what a checkup finds wrong with it.
	defect(c *checkup) api.Errno
}

// otherFile is a file that is no object's card.
type otherFile struct {
	api.DepotFile
}

func (f otherFile) file() api.DepotFile { return f.DepotFile }

func (f otherFile) tells() (told, bool) { return told{}, false }

// depot is what a list of files holds.
type depot struct {
	held   []holding // by name
	proofs map[claim]proof
}

// open is the depot that files are; or the error and the name of the file that shows it.
func open(files []api.DepotFile) (*depot, api.Errno, string) {
	if len(files) > api.MaxFiles {
		return nil, api.ErrLong, ""
	}
	sorted := slices.SortedFunc(slices.Values(files), byName)
	d := &depot{proofs: map[claim]proof{}}
	for i, f := range sorted {
		if i > 0 && sorted[i-1].Name == f.Name {
			return nil, api.ErrDepot, f.Name
		}
		d.held = append(d.held, holdingOf(f))
	}
	if !d.isSigned() {
		return nil, api.ErrDepot, ownName
	}
	return d, api.OK, ""
}

// isSigned says whether a depot has a card of its own.
func (d *depot) isSigned() bool {
	h, there := d.find(ownName)
	if !there {
		return false
	}
	_, e, _ := card.ReadSign(string(h.file().Data))
	return e == api.OK
}

func byName(a, b api.DepotFile) int { return strings.Compare(a.Name, b.Name) }

// begun is the files of a depot that begins.
func begun() []api.DepotFile {
	text, _ := card.PrintSign(api.Sign{Store: "/graft/store", Mass: true, Priority: 40})
	return []api.DepotFile{{Name: ownName, Data: []byte(text)}}
}

// holdingOf is what a file is in a depot: its name says that.
func holdingOf(f api.DepotFile) holding {
	if isCardName(f.Name) {
		return &cardFile{DepotFile: f}
	}
	return otherFile{f}
}

// cardName is how the file with the card of a label is called.
func cardName(l api.Label) string { return digest.Base32(l.Hash[:]) + cardTail }

// isCardName says whether a file of this name is a card's.
func isCardName(name string) bool {
	digits, ok := strings.CutSuffix(name, cardTail)
	if !ok || len(digits) != api.Digits {
		return false
	}
	_, e, _ := digest.UnBase32(digits)
	return e == api.OK
}

// find is what a depot holds under a name; false if there is nothing.
func (d *depot) find(name string) (holding, bool) {
	at, there := slices.BinarySearchFunc(d.held, name, func(h holding, name string) int { return strings.Compare(h.file().Name, name) })
	if !there {
		return nil, false
	}
	return d.held[at], true
}

// all is what a depot holds, by name. The channel has room for all of it, so that who ranges over it may leave it at any time.
func (d *depot) all() <-chan holding {
	out := make(chan holding, len(d.held))
	for _, h := range d.held {
		out <- h
	}
	close(out)
	return out
}

// copyOf is a file in new memory.
func copyOf(f api.DepotFile) api.DepotFile {
	return api.DepotFile{Name: f.Name, Data: bytes.Clone(f.Data)}
}
