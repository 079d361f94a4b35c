package depot

import (
	"graft/api"
	"graft/ark"
	"graft/card"
	"graft/digest"
	"graft/label"
	"graft/press"
)

// The presses: how a file is made out of its archive.
const (
	pressNone = "none"
	pressGzip = "gzip"
)

// told is a card, and the object that it tells of, without its archive.
type told struct {
	card   api.Card
	object api.Object
}

// cardFile is a file that is called as a card is. What it says is read when it is first asked for.
type cardFile struct {
	api.DepotFile
	asked bool
	told  told
	ok    bool // it is a card
}

func (f *cardFile) file() api.DepotFile { return f.DepotFile }

func (f *cardFile) tells() (told, bool) {
	if !f.asked {
		f.asked = true
		f.told, f.ok = readCard(f.Data)
	}
	return f.told, f.ok
}

// readCard is what a card's text tells; false if it is none.
func readCard(data []byte) (told, bool) {
	c, e, _ := card.Read(string(data))
	if e != api.OK {
		return told{}, false
	}
	return told{c, objectOf(c)}, true
}

// objectOf is the object that a card tells of, without its archive. All texts of a card are those of labels.
func objectOf(c api.Card) api.Object {
	l, _, _ := label.Parse(c.Label)
	o := api.Object{Label: l, Ca: caOf(c.Ca)}
	for _, base := range c.Refs {
		ref, _, _ := label.ParseBase(base)
		o.Refs = append(o.Refs, ref)
	}
	if c.Maker != "" {
		o.Maker = api.Store + c.Maker
	}
	return o
}

// caOf is how an object is called, by a card's word.
func caOf(word string) api.Ca {
	switch word {
	case "text":
		return api.ByText
	case "source":
		return api.BySource
	case "group":
		return api.ByGroup
	case "flat":
		return api.ByFlat
	}
	return api.Guest
}

// good is what the card says that is good for a label; or what lacks.
func (d *depot) good(l api.Label) (told, api.Errno) {
	h, there := d.find(cardName(l))
	if !there {
		return told{}, api.ErrNone
	}
	x, ok := h.tells()
	if !ok || x.object.Label != l {
		return told{}, api.ErrDepot
	}
	return x, api.OK
}

// object is the whole object that a card tells of; or what is wrong with its file.
func (d *depot) object(x told) (api.Object, api.Errno) {
	data, e := d.archive(x.card)
	if e != api.OK {
		return api.Object{}, e
	}
	o := x.object
	o.Ark = data
	return o, api.OK
}

// claim is what a card says of its file. Cards that say the same of one are proved together.
type claim struct {
	url, press        string
	fileSum, arkSum   string
	fileSize, arkSize int
}

// proof is the archive that a claim leads to, or what is wrong with it.
type proof struct {
	archive []byte
	e       api.Errno
}

// archive is that of a card whose file is good; or what is wrong with it.
func (d *depot) archive(c api.Card) ([]byte, api.Errno) {
	said := claim{c.Url, c.Press, c.FileSum, c.ArkSum, c.FileSize, c.ArkSize}
	p, done := d.proofs[said]
	if !done {
		p = d.prove(said)
		d.proofs[said] = p
	}
	return p.archive, p.e
}

func (d *depot) prove(said claim) proof {
	h, there := d.find(said.url)
	if !there {
		return proof{e: api.ErrNone}
	}
	data, ok := unpacked(h.file().Data, said)
	if !ok {
		return proof{e: api.ErrDiffer}
	}
	if _, e, _ := ark.Parse(data); e != api.OK {
		return proof{e: api.ErrArk}
	}
	return proof{archive: data}
}

// unpacked is what a file holds; false if the file, or that, is not what is said of it.
func unpacked(data []byte, said claim) ([]byte, bool) {
	if !isAs(data, said.fileSize, said.fileSum) {
		return nil, false
	}
	if said.press == pressNone { // a card says the same of such a file and of its archive
		return data, true
	}
	out, e, _ := press.Gunzip(data, said.arkSize)
	return out, e == api.OK && isAs(out, said.arkSize, said.arkSum)
}

// isAs says whether bytes have that length and that sum.
func isAs(data []byte, size int, sum string) bool {
	return len(data) == size && digest.Show(digest.Of(data), api.Form32) == sum
}
