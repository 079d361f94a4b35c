package card

import (
	"bytes"
	"slices"
	"testing"

	"graft/api"
)

// roomy is a list with room behind it, in which something stands.
func roomy[T any](list []T, stands T) []T {
	room := slices.Repeat([]T{stands}, len(list)+4)
	copy(room, list)
	return room[:len(list)]
}

func overwrite[T any](list []T, by T) {
	list = list[:cap(list)]
	for i := range list {
		list[i] = by
	}
}

// withRoom is a card whose lists have room behind them.
func withRoom(c api.Card) api.Card {
	c.Refs, c.Marks = roomy(c.Refs, "room"), roomy(c.Marks, api.Mark{Key: "room"})
	return c
}

// copyOf is a card with all that stands in the room behind its lists, in other memory.
func copyOf(c api.Card) api.Card {
	c.Refs, c.Marks = slices.Clone(c.Refs[:cap(c.Refs)]), slices.Clone(c.Marks[:cap(c.Marks)])
	return c
}

// spoil overwrites a card's lists and the room behind them.
func spoil(c api.Card) {
	overwrite(c.Refs, "over")
	overwrite(c.Marks, api.Mark{Key: "over", Tag: "over"})
}

// roomyCards is cards, right and wrong, whose lists have room behind them.
func roomyCards() []api.Card {
	fifteen, sixteen, wrong, long := full(), full(), full(), full()
	fifteen.Marks, sixteen.Marks = marksBy(15), marksBy(16)
	wrong.Refs = []string{baseB, baseB}
	long.Refs = bases(257)
	var out []api.Card
	for _, c := range []api.Card{first(), full(), fifteen, sixteen, wrong, long, {}} {
		out = append(out, withRoom(c))
	}
	return out
}

// secrets is keys whose list and secrets have room behind them.
func secrets() []api.Key {
	var out []api.Key
	for _, k := range []api.Key{keyOf("0", "s"), keyOf("k", "secret"), keyOf("k", "other"), keyOf("zz", "s"), keyOf(".", ""), {Name: "k"}} {
		k.Secret = roomy(k.Secret, 'r')
		out = append(out, k)
	}
	return roomy(out, api.Key{Name: "room"})
}

// copyKeys is keys with all that stands in the room behind them, in other memory.
func copyKeys(keys []api.Key) []api.Key {
	out := slices.Clone(keys[:cap(keys)])
	for i, k := range out {
		out[i].Secret = bytes.Clone(k.Secret[:cap(k.Secret)])
	}
	return out
}

func sameKeys(a, b []api.Key) bool {
	return slices.EqualFunc(a, b, func(a, b api.Key) bool { return a.Name == b.Name && bytes.Equal(a.Secret, b.Secret) })
}

// What is handed in stays as it was, and the room behind it.
func TestHandedIn(t *testing.T) {
	for i, c := range roomyCards() {
		before := copyOf(c)
		keys := secrets()
		keysBefore := copyKeys(keys)
		for name, ask := range map[string]func(){
			"Check": func() { Check(c) }, "Print": func() { Print(c) }, "Says": func() { Says(c) }, "Proves": func() { Proves(c, keys) },
			"Sign": func() {
				for _, k := range keys {
					Sign(c, k)
				}
			},
		} {
			ask()
			if !same(copyOf(c), before) || !sameKeys(copyKeys(keys), keysBefore) {
				t.Errorf("%s changed what it was handed with the card %d", name, i)
			}
		}
	}
}

// What Tells is handed stays as it was, and the room behind it.
func TestHandedInObject(t *testing.T) {
	stands := api.Label{Name: "room"}
	o := thing()
	o.Refs, o.Ark = roomy(o.Refs, stands), roomy(o.Ark, 'r')
	file := roomy([]byte("packed"), 'r')
	refs, ark, was := slices.Clone(o.Refs[:cap(o.Refs)]), bytes.Clone(o.Ark[:cap(o.Ark)]), bytes.Clone(file[:cap(file)])
	for _, press := range []string{"gzip", "none", "x"} {
		for _, f := range [][]byte{file, o.Ark} {
			Tells(o, "u", press, f)
			if !slices.Equal(o.Refs[:cap(o.Refs)], refs) || !bytes.Equal(o.Ark[:cap(o.Ark)], ark) || !bytes.Equal(file[:cap(file)], was) {
				t.Errorf("Tells by %s changed what it was handed", press)
			}
		}
	}
	c, _ := Tells(o, "u", "gzip", file)
	kept := copyOf(c)
	overwrite(o.Refs, api.Label{})
	overwrite(o.Ark, 0)
	overwrite(file, 0)
	if !same(copyOf(c), kept) {
		t.Error("what Tells answers hangs on what it was handed")
	}
}

// makers is the calls that answer a card, each asked so that it goes well.
func makers(c api.Card) map[string]func() api.Card {
	text := plainText(c)
	return map[string]func() api.Card{
		"Read": func() api.Card { out, _, _ := Read(text); return out },
		"Sign as one more": func() api.Card {
			out, _ := Sign(c, keyOf("a", "s"))
			return out
		},
		"Sign as the last": func() api.Card {
			out, _ := Sign(c, keyOf("zz", "s"))
			return out
		},
		"Sign again": func() api.Card {
			out, _ := Sign(c, keyOf("k", "s"))
			return out
		},
		"Tells": func() api.Card {
			out, _ := Tells(thing(), "u", "none", []byte("bytes"))
			return out
		},
	}
}

// Every list that is handed out is new memory: it has none in common with what was handed in, nor with another answer.
func TestHandedOut(t *testing.T) {
	for i, c := range []api.Card{withRoom(first()), withRoom(full()), first(), full()} {
		before := copyOf(c)
		for name, ask := range makers(c) {
			out, other := ask(), ask()
			if e, _ := Check(out); e != api.OK {
				t.Fatalf("%s of the card %d is refused", name, i)
			}
			want := copyOf(other)
			spoil(out)
			_ = append(out.Refs, "more")
			_ = append(out.Marks, api.Mark{Key: "more"})
			if !same(copyOf(c), before) {
				t.Errorf("%s: what is written into the answer shows in the card %d", name, i)
			}
			if !same(copyOf(other), want) || !same(copyOf(ask()), want) {
				t.Errorf("%s: what is written into the answer shows in another one", name)
			}
		}
	}
}

// What is answered hangs on what was handed in no more.
func TestNotKept(t *testing.T) {
	for _, key := range []string{"a", "k", "zz"} {
		for _, start := range []api.Card{first(), full()} {
			c := withRoom(start)
			k := keyOf(key, "secret")
			out, e := Sign(c, k)
			want := copyOf(out)
			spoil(c)
			overwrite(k.Secret, 'o')
			if e != api.OK || !same(copyOf(out), want) {
				t.Errorf("what Sign as %s answers hangs on what it was handed", key)
			}
		}
	}
}

// nil and empty lists are the same.
func TestNilAndEmpty(t *testing.T) {
	empty := first()
	empty.Refs, empty.Marks = []string{}, []api.Mark{}
	if e, n := Check(empty); e != api.OK || n != 0 {
		t.Errorf("Check = %d, %d", e, n)
	}
	if text, e, _ := Print(empty); text != firstText || e != api.OK {
		t.Errorf("Print = %q, %d", text, e)
	}
	a, _ := Says(first())
	if b, e := Says(empty); a != b || e != api.OK {
		t.Errorf("Says = %q, %d", b, e)
	}
	x, _ := Sign(first(), keyOf("k", "s"))
	if y, e := Sign(empty, api.Key{Name: "k", Secret: []byte("s")}); !same(x, y) || e != api.OK {
		t.Errorf("Sign = %+v, %d", y, e)
	}
	if _, e := Sign(empty, api.Key{Name: "k", Secret: []byte{}}); e != api.ErrArg {
		t.Errorf("Sign by no secret = %d", e)
	}
	c := full()
	c.Marks[1].Tag = plainTag("", plainSays(c))
	if !Proves(c, []api.Key{{Name: "k"}}) || !Proves(c, []api.Key{{Name: "k", Secret: []byte{}}}) {
		t.Error("Proves by no secret")
	}
	o := api.Object{Label: api.Label{Name: "x"}}
	p := api.Object{Label: api.Label{Name: "x"}, Refs: []api.Label{}, Ark: []byte{}}
	one, e := Tells(o, "u", "none", []byte{})
	other, f := Tells(p, "u", "none", nil)
	if !same(one, other) || e != api.OK || f != api.OK {
		t.Errorf("Tells = %+v, %d and %+v, %d", one, e, other, f)
	}
}
