package depot

import (
	"bytes"
	"slices"

	"graft/api"
	"graft/card"
	"graft/digest"
	"graft/label"
	"graft/press"
)

// maxSecret is how many bytes the secret of a key may have that signs.
const maxSecret = 255

// checkAsked is what is wrong with the keys and the press that are to be used.
func checkAsked(keys []api.Key, how string) api.Errno {
	if how != pressNone && how != pressGzip {
		return api.ErrArg
	}
	for _, k := range keys {
		if e, _ := label.Check(k.Name); e != api.OK {
			return api.ErrMark
		}
		if len(k.Secret) == 0 || len(k.Secret) > maxSecret {
			return api.ErrArg
		}
	}
	return api.OK
}

// pushing is a Push under way.
type pushing struct {
	depot *depot
	keys  []api.Key
	press string
	fresh map[string][]byte // the data of the files that come, or change, by name
}

// push puts an object's card into the depot, and its archive if that is not there.
func (p *pushing) push(o api.Object) api.Errno {
	c, e := p.cardFor(o)
	if e != api.OK {
		return e
	}
	for _, k := range p.keys {
		if c, e = card.Sign(c, k); e != api.OK {
			return e
		}
	}
	text, _, _ := card.Print(c) // it was read, or checked
	p.fresh[cardName(o.Label)] = []byte(text)
	return api.OK
}

// cardFor is the card that is there, if there is one; else a new one.
func (p *pushing) cardFor(o api.Object) (api.Card, api.Errno) {
	if _, there := p.depot.find(cardName(o.Label)); there {
		return p.oldCard(o)
	}
	return p.newCard(o)
}

// oldCard is the card that is there, if it tells of this very object.
func (p *pushing) oldCard(o api.Object) (api.Card, api.Errno) {
	x, e := p.depot.good(o.Label)
	if e != api.OK {
		return api.Card{}, api.ErrDiffer
	}
	mine, _ := card.Tells(o, x.card.Url, pressNone, o.Ark)
	if !saysSame(x.card, mine) {
		return api.Card{}, api.ErrDiffer
	}
	if _, e := p.depot.archive(x.card); e != api.OK {
		return api.Card{}, api.ErrDiffer
	}
	return x.card, api.OK
}

// saysSame says whether two cards say the same of their objects, wherever these lie and whoever vouches for them.
func saysSame(a, b api.Card) bool {
	one, e := card.Says(a)
	two, f := card.Says(b)
	return e == api.OK && f == api.OK && one == two
}

// newCard is the card of an object whose file comes with it.
func (p *pushing) newCard(o api.Object) (api.Card, api.Errno) {
	data, tail := o.Ark, arkTail
	if p.press == pressGzip {
		data, tail = press.Gzip(o.Ark), arkTail+gzipTail
	}
	sum := digest.Of(data)
	name := arkHead + digest.Base32(sum[:]) + tail
	c, e := card.Tells(o, name, p.press, data)
	if e != api.OK {
		return api.Card{}, e
	}
	if h, there := p.depot.find(name); there && !bytes.Equal(h.file().Data, data) {
		return api.Card{}, api.ErrDiffer
	}
	p.fresh[name] = data
	return c, api.OK
}

// files is all files that the depot is to have, by name.
func (p *pushing) files() ([]api.DepotFile, api.Errno) {
	var out []api.DepotFile
	for h := range p.depot.all() {
		if _, is := p.fresh[h.file().Name]; !is {
			out = append(out, copyOf(h.file()))
		}
	}
	if len(out)+len(p.fresh) > api.MaxFiles {
		return nil, api.ErrFull
	}
	for name, data := range p.fresh {
		out = append(out, api.DepotFile{Name: name, Data: data})
	}
	slices.SortFunc(out, byName)
	return out, api.OK
}
