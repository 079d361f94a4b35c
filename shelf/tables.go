package shelf

import (
	"maps"
	"slices"

	"graft/api"
	"graft/ark"
	"graft/fit"
)

// tables is all that a shelf knows.
type tables struct {
	objects map[api.Hash]object
	arks    map[int]archive // by number
	numbers map[string]int  // of the arks, by their bytes
	next    int             // the number of the ark that comes next
	sames   map[api.Label]api.Label
	mades   map[string]api.Label
	values  map[string]value
}

// archive is bytes that objects share.
type archive struct {
	data  string
	users int // how many objects have it
}

// value is bytes that a key has; as a text, so that no copy of the state can change them.
type value struct {
	data string
}

func newTables() tables {
	return tables{
		objects: map[api.Hash]object{},
		arks:    map[int]archive{},
		numbers: map[string]int{},
		sames:   map[api.Label]api.Label{},
		mades:   map[string]api.Label{},
		values:  map[string]value{},
	}
}

// copy is tables with the same rows; what comes into one, or goes, shows not in the other.
func (t *tables) copy() tables {
	return tables{
		objects: maps.Clone(t.objects),
		arks:    maps.Clone(t.arks),
		numbers: maps.Clone(t.numbers),
		next:    t.next,
		sames:   maps.Clone(t.sames),
		mades:   maps.Clone(t.mades),
		values:  maps.Clone(t.values),
	}
}

// find is the object with a label.
func (t *tables) find(l api.Label) (object, bool) {
	o, there := t.objects[l.Hash]
	if !there || o.label != l {
		return object{}, false
	}
	return o, true
}

// has says whether an object has a label.
func (t *tables) has(l api.Label) bool {
	_, there := t.find(l)
	return there
}

// isLacking says whether the object with a label, if there is one, refers to what is not there.
func (t *tables) isLacking(l api.Label) bool {
	o, _ := t.find(l)
	return slices.ContainsFunc(o.refs, func(ref api.Label) bool { return !t.has(ref) })
}

// isNeeded says whether an object refers to a label.
func (t *tables) isNeeded(l api.Label) bool {
	for _, o := range t.objects {
		if o.refersTo(l) {
			return true
		}
	}
	return false
}

// do does what an entry says: whether that changes the tables, or why it can't be.
func (t *tables) do(x entry) (bool, api.Errno) {
	switch x.kind {
	case entryArk:
		return t.doArk(x.data)
	case entryPut:
		return t.doPut(x.object)
	case entryDrop:
		return t.doDrop(x.label)
	case entrySame:
		return t.doSame(x.old, x.label)
	case entryMade:
		return t.doMade(x.key, x.label)
	case entryValue:
		return t.doValue(x.key, x.data)
	case entryVoid:
		return t.doVoid(x.key)
	}
	return false, api.ErrArg
}

// doArk brings an ark that no object has yet.
func (t *tables) doArk(data []byte) (bool, api.Errno) {
	if _, there := t.numbers[string(data)]; there {
		return false, api.OK
	}
	if _, e, _ := ark.Parse(data); e != api.OK {
		return false, api.ErrObject
	}
	a := archive{data: string(data)}
	t.arks[t.next], t.numbers[a.data] = a, t.next
	t.next++
	return true, api.OK
}

func (t *tables) doPut(o object) (bool, api.Errno) {
	a, there := t.arks[o.ark]
	if !there || !o.right() {
		return false, api.ErrObject
	}
	if old, there := t.objects[o.label.Hash]; there {
		switch {
		case old.label != o.label:
			return false, api.ErrClash
		case !old.equals(o):
			return false, api.ErrThere
		}
		return false, api.OK
	}
	if len(t.objects) >= api.MaxObjects {
		return false, api.ErrFull
	}
	t.objects[o.label.Hash] = o
	a.users++
	t.arks[o.ark] = a
	return true, api.OK
}

func (t *tables) doDrop(l api.Label) (bool, api.Errno) {
	o, there := t.find(l)
	if !there {
		return false, api.ErrNone
	}
	delete(t.objects, l.Hash)
	maps.DeleteFunc(t.sames, func(_, to api.Label) bool { return to == l })
	maps.DeleteFunc(t.mades, func(_ string, to api.Label) bool { return to == l })
	t.leave(o.ark)
	return true, api.OK
}

// leave is what becomes of an ark when one of its objects has gone.
func (t *tables) leave(number int) {
	a := t.arks[number]
	a.users--
	if a.users > 0 {
		t.arks[number] = a
		return
	}
	delete(t.arks, number)
	delete(t.numbers, a.data)
}

func (t *tables) doSame(old, to api.Label) (bool, api.Errno) {
	if !fit.Label(old) {
		return false, api.ErrArg
	}
	return lead(t, t.sames, old, to, api.MaxSames)
}

func (t *tables) doMade(key string, to api.Label) (bool, api.Errno) {
	if !isKey(key) {
		return false, api.ErrArg
	}
	return lead(t, t.mades, key, to, api.MaxMades)
}

// lead makes a key lead to an object, in a table of so many rows at most.
func lead[K comparable](t *tables, rows map[K]api.Label, key K, to api.Label, most int) (bool, api.Errno) {
	if !t.has(to) {
		return false, api.ErrNone
	}
	if had, there := rows[key]; there {
		if had != to {
			return false, api.ErrThere
		}
		return false, api.OK
	}
	if len(rows) >= most {
		return false, api.ErrFull
	}
	rows[key] = to
	return true, api.OK
}

func (t *tables) doValue(key string, data []byte) (bool, api.Errno) {
	switch {
	case !isKey(key):
		return false, api.ErrArg
	case len(data) > api.MaxHeld:
		return false, api.ErrLong
	}
	if _, there := t.values[key]; !there && len(t.values) >= api.MaxValues {
		return false, api.ErrFull
	}
	t.values[key] = value{string(data)}
	return true, api.OK
}

func (t *tables) doVoid(key string) (bool, api.Errno) {
	if _, there := t.values[key]; !there {
		return false, api.ErrNone
	}
	delete(t.values, key)
	return true, api.OK
}

func isKey(key string) bool {
	return key != "" && len(key) <= api.MaxKey
}
