package depot

import (
	"slices"

	"graft/api"
)

// checkup is a Check under way.
type checkup struct {
	depot *depot
	keys  []api.Key
	urls  map[string]struct{} // the names of files that cards tell of
	names *names              // of the objects whose cards and files are good
}

func newCheckup(d *depot, keys []api.Key) *checkup {
	c := &checkup{depot: d, keys: keys, urls: map[string]struct{}{}}
	var objects []api.Object
	for h := range d.all() {
		x, ok := h.tells()
		if !ok {
			continue
		}
		c.urls[x.card.Url] = struct{}{}
		if o, e := d.object(x); e == api.OK && isAt(x, h.file().Name) {
			objects = append(objects, o)
		}
	}
	c.names = newNames(objects, nil)
	return c
}

// isAt says whether a card is good for its label in a file of this name.
func isAt(x told, name string) bool { return cardName(x.object.Label) == name }

// lacks says whether no card is good for a label.
func (c *checkup) lacks(l api.Label) bool {
	_, e := c.depot.good(l)
	return e != api.OK
}

func (f *cardFile) defect(c *checkup) api.Errno {
	x, ok := f.tells()
	switch {
	case !ok || !isAt(x, f.Name):
		return api.ErrDepot
	case !isTrusted(x.card, c.keys):
		return api.ErrTrust
	}
	o, e := c.depot.object(x)
	switch {
	case e != api.OK:
		return e
	case slices.ContainsFunc(o.Refs, c.lacks):
		return api.ErrNone
	case c.names.isWrong(o):
		return api.ErrWrong
	}
	return api.OK
}

func (f otherFile) defect(c *checkup) api.Errno {
	if _, is := c.urls[f.Name]; is || f.Name == ownName {
		return api.OK
	}
	return api.ErrDepot
}
