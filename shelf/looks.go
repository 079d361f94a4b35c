package shelf

import (
	"cmp"
	"maps"
	"slices"

	"graft/api"
	"graft/label"
)

// look asks the tables something, while nothing changes them.
func (s *Shelf) look(ask func(t *tables)) {
	if s.none() {
		return
	}
	s.guard.RLock()
	defer s.guard.RUnlock()
	ask(&s.state)
}

// Get is the object with this label.
func (s *Shelf) Get(l api.Label) (o api.Object, e api.Errno) {
	s.look(func(t *tables) { o, e = t.get(l) })
	return o, e
}

// Has tells whether an object is there.
func (s *Shelf) Has(l api.Label) (there bool) {
	s.look(func(t *tables) { there = t.has(l) })
	return there
}

// Named is the label of the object with this hash.
func (s *Shelf) Named(h api.Hash) (l api.Label, e api.Errno) {
	s.look(func(t *tables) { l, e = t.named(h) })
	return l, e
}

// List is all labels, in order.
func (s *Shelf) List() (out []api.Label) {
	s.look(func(t *tables) { out = t.list() })
	return out
}

// Referrers is the others that refer to an object, in order.
func (s *Shelf) Referrers(l api.Label) (out []api.Label) {
	s.look(func(t *tables) { out = t.referrers(l) })
	return out
}

// Closure is the roots and all that they lead to, in order.
func (s *Shelf) Closure(roots []api.Label) (out []api.Label, e api.Errno, at int) {
	s.look(func(t *tables) { out, e, at = t.closure(roots) })
	return out, e, at
}

// Same is what an object was renamed to.
func (s *Shelf) Same(old api.Label) (l api.Label, e api.Errno) {
	s.look(func(t *tables) { l, e = rowOf(t.sames, old) })
	return l, e
}

// Sames is all renamings, by the old labels.
func (s *Shelf) Sames() (out []api.Same) {
	s.look(func(t *tables) { out = t.sameList() })
	return out
}

// Made is what an output came to.
func (s *Shelf) Made(key string) (l api.Label, e api.Errno) {
	s.look(func(t *tables) { l, e = rowOf(t.mades, key) })
	return l, e
}

// Mades is all of these, by key.
func (s *Shelf) Mades() (out []api.Made) {
	s.look(func(t *tables) { out = t.madeList() })
	return out
}

// Value is a key's value.
func (s *Shelf) Value(key string) (data []byte, e api.Errno) {
	s.look(func(t *tables) { data, e = t.value(key) })
	return data, e
}

// Keys is the keys that have values, in order.
func (s *Shelf) Keys() (out []string) {
	s.look(func(t *tables) { out = t.keys() })
	return out
}

// Stat counts.
func (s *Shelf) Stat() (c api.Stat) {
	s.look(func(t *tables) {
		c = t.count()
		c.Journal, c.Room = s.used(), s.journal.Room()
	})
	return c
}

// used is how many bytes the journal's live file has. A journal says how many are left, so the file itself is
// asked only where none are: it may have been longer than the limit when it was opened.
func (s *Shelf) used() int {
	if room := s.journal.Room(); room > 0 {
		return s.limit - room
	}
	return s.journal.Story().Good
}

// Last is the number of the last transaction.
func (s *Shelf) Last() (n int) {
	s.look(func(*tables) { n = s.journal.Last() })
	return n
}

// rowOf is what a table has for a key.
func rowOf[K comparable, V any](rows map[K]V, key K) (V, api.Errno) {
	row, there := rows[key]
	if !there {
		return row, api.ErrNone
	}
	return row, api.OK
}

// get is an object, in new memory.
func (t *tables) get(l api.Label) (api.Object, api.Errno) {
	o, there := t.find(l)
	if !there {
		return api.Object{}, api.ErrNone
	}
	return api.Object{Label: l, Refs: slices.Clone(o.refs), Ark: []byte(t.arks[o.ark].data), Maker: o.maker, Ca: o.ca}, api.OK
}

func (t *tables) named(h api.Hash) (api.Label, api.Errno) {
	o, e := rowOf(t.objects, h)
	if e != api.OK {
		return api.Label{}, e
	}
	return o.label, api.OK
}

func (t *tables) list() []api.Label {
	out := make([]api.Label, 0, len(t.objects))
	for _, o := range t.objects {
		out = append(out, o.label)
	}
	return label.Sort(out)
}

func (t *tables) referrers(l api.Label) []api.Label {
	if !t.has(l) {
		return nil
	}
	var out []api.Label
	for _, o := range t.objects {
		if o.label != l && o.refersTo(l) {
			out = append(out, o.label)
		}
	}
	return label.Sort(out)
}

func (t *tables) closure(roots []api.Label) ([]api.Label, api.Errno, int) {
	for i, l := range roots {
		if !t.has(l) {
			return nil, api.ErrNone, i
		}
	}
	var out []api.Label
	seen := map[api.Hash]struct{}{}
	for todo := slices.Clone(roots); len(todo) > 0; {
		l := todo[len(todo)-1]
		todo = todo[:len(todo)-1]
		if _, done := seen[l.Hash]; done {
			continue
		}
		seen[l.Hash] = struct{}{}
		out = append(out, l)
		todo = append(todo, t.objects[l.Hash].refs...)
	}
	return label.Sort(out), api.OK, 0
}

func (t *tables) sameList() []api.Same {
	out := make([]api.Same, 0, len(t.sames))
	for old, to := range t.sames {
		out = append(out, api.Same{Old: old, New: to})
	}
	slices.SortFunc(out, func(a, b api.Same) int { return label.Compare(a.Old, b.Old) })
	return out
}

func (t *tables) madeList() []api.Made {
	out := make([]api.Made, 0, len(t.mades))
	for key, to := range t.mades {
		out = append(out, api.Made{Key: key, Label: to})
	}
	slices.SortFunc(out, func(a, b api.Made) int { return cmp.Compare(a.Key, b.Key) })
	return out
}

// value is a key's value, in new memory.
func (t *tables) value(key string) ([]byte, api.Errno) {
	row, e := rowOf(t.values, key)
	if e != api.OK {
		return nil, e
	}
	return []byte(row.data), api.OK
}

func (t *tables) keys() []string {
	return slices.Sorted(maps.Keys(t.values))
}

// count is all of a Stat but for the journal's part.
func (t *tables) count() api.Stat {
	size := 0
	for _, a := range t.arks {
		size += len(a.data)
	}
	return api.Stat{Objects: len(t.objects), Arks: len(t.arks), Bytes: size, Sames: len(t.sames), Mades: len(t.mades), Values: len(t.values)}
}
