package shelf

import (
	"bytes"
	"fmt"
	"slices"
	"strings"
	"testing"

	"graft/api"
	"graft/journal"
)

// roomy is a list with room behind it, in which something stands.
func roomy[T any](list []T, stands T) []T {
	room := slices.Repeat([]T{stands}, len(list)+5)
	copy(room, list)
	return room[:len(list)]
}

// overwrite writes over a list and the room behind it.
func overwrite[T any](list []T, by T) {
	list = list[:cap(list)]
	for i := range list {
		list[i] = by
	}
}

// roomySteps is steps whose lists have room behind them.
func roomySteps(steps []api.Step) []api.Step {
	var out []api.Step
	for _, x := range steps {
		x.Object.Refs, x.Object.Ark, x.Value = roomy(x.Object.Refs, named('!')), roomy(x.Object.Ark, '!'), roomy(x.Value, '!')
		out = append(out, x)
	}
	return roomy(out, drop(named('!')))
}

// whole is steps with all that stands in the room behind them.
func whole(steps []api.Step) string {
	var b strings.Builder
	for _, x := range steps[:cap(steps)] {
		x.Object.Refs, x.Object.Ark, x.Value = x.Object.Refs[:cap(x.Object.Refs)], x.Object.Ark[:cap(x.Object.Ark)], x.Value[:cap(x.Value)]
		fmt.Fprintln(&b, x)
	}
	return b.String()
}

// spoil writes over steps, their lists and all room.
func spoil(steps []api.Step) {
	for _, x := range steps {
		overwrite(x.Object.Refs, named('?'))
		overwrite(x.Object.Ark, '?')
		overwrite(x.Value, '?')
	}
	overwrite(steps, void("?"))
}

// everything is steps of each kind, and ones that do nothing more.
func everything() []api.Step {
	a, b, c := named('a'), named('b'), named('c')
	return []api.Step{
		put(a, fileOf("hi"), b), put(b, fileOf("ho"), a, b), put(c, fileOf("hi")), put(a, fileOf("hi"), b), same(named('x'), a), made("m", b),
		setTo("k", "value"), setTo("l", "gone"), void("l"), put(named('d'), fileOf("gone"), c), drop(named('d')),
	}
}

// What is handed in stays as it was, and is not kept.
func TestHandedIn(t *testing.T) {
	long := append(everything(), make([]api.Step, api.MaxBatch)...)
	for i, steps := range [][]api.Step{
		everything(), append(everything(), api.Step{}), append(everything(), put(named('e'), fileOf("hi"), named('z'))), append(everything(), put(named('e'), []byte("no archive"))), long,
	} {
		v := journal.NewDevice(api.Disk{})
		s := mustOpen(t, v, 1<<20)
		given := roomySteps(steps)
		before := whole(given)
		e, _ := s.Apply(given)
		if whole(given) != before || (e == api.OK) != (i == 0) {
			t.Errorf("%d: what was handed in has changed: %d", i, e)
		}
		told, files := tell(s), filesOf(v)
		spoil(given)
		if tell(s) != told || filesOf(v) != files {
			t.Errorf("%d: what was handed in is kept: %s", i, firstUnlike(tell(s), told))
		}
		s.Compact()
		if tell(s) != told {
			t.Errorf("%d: what was handed in is kept: %s", i, firstUnlike(tell(s), told))
		}
	}
}

// Roots that are handed in stay as they were.
func TestHandedRoots(t *testing.T) {
	b := woven(t)
	for _, roots := range [][]api.Label{nil, {named('d'), named('a')}, {named('e'), named('x')}} {
		given := roomy(roots, named('!'))
		before := slices.Clone(given[:cap(given)])
		got, _, _ := b.s.Closure(given)
		if !slices.Equal(given[:cap(given)], before) {
			t.Errorf("what was handed in has changed: %v", given)
		}
		was := slices.Clone(got)
		overwrite(given, named('?'))
		if !slices.Equal(got, was) {
			t.Errorf("an answer has memory in common with what was handed in")
		}
	}
}

// What is handed out is new memory each time: what is written into it, and behind it, shows nowhere.
func TestHandedOut(t *testing.T) {
	b := woven(t)
	a := named('a')
	b.want("more", api.OK, 0, same(named('x'), a), same(named('y'), a), made("m", a), made("n", a), setTo("k", "value"), setTo("l", ""))
	told, files := tell(b.s), filesOf(b.v)
	for range 2 {
		for _, l := range b.s.List() {
			one, _ := b.s.Get(l)
			two, _ := b.s.Get(l)
			refs, data := slices.Clone(two.Refs), bytes.Clone(two.Ark)
			overwrite(one.Refs, named('?'))
			overwrite(one.Ark, '?')
			if !slices.Equal(two.Refs, refs) || !bytes.Equal(two.Ark, data) {
				t.Errorf("two answers of Get share memory")
			}
			overwrite(b.s.Referrers(l), named('?'))
			closure, _, _ := b.s.Closure([]api.Label{l})
			overwrite(closure, named('?'))
		}
		overwrite(b.s.List(), named('?'))
		overwrite(b.s.Sames(), api.Same{Old: named('?')})
		overwrite(b.s.Mades(), api.Made{Key: "?"})
		overwrite(b.s.Keys(), "?")
		for _, key := range b.s.Keys() {
			data, _ := b.s.Value(key)
			overwrite(data, '?')
		}
		if tell(b.s) != told || filesOf(b.v) != files {
			t.Fatalf("what was written into answers shows: %s", firstUnlike(tell(b.s), told))
		}
		b.hold("behind all that")
		b.compact() // the base, too, has nothing of it
		b.hold("compacted")
		files = filesOf(b.v)
	}
	overwrite(b.v.Disk().Files[0], '?')
	overwrite(b.v.Disk().Files[1], '?')
	b.hold("the disk's bytes are new memory")
}

// Two objects of one ark hand out bytes of their own.
func TestSharedArk(t *testing.T) {
	b := woven(t)
	one, _ := b.s.Get(named('a'))
	overwrite(one.Ark, '?')
	if two, _ := b.s.Get(named('b')); !bytes.Equal(two.Ark, fileOf("hi")) {
		t.Errorf("%q", two.Ark)
	}
}

// What is handed in may share memory within itself.
func TestSharedWithin(t *testing.T) {
	f := fileOf("hi")
	refs := []api.Label{named('a'), named('b')}
	b := begin(t, 1<<16)
	b.want("shared", api.OK, 0, put(named('a'), f, refs...), put(named('b'), f, refs...), put(named('c'), f, refs[1:]...), put(named('d'), f, refs[:1]...),
		api.Step{Kind: api.StepValue, Key: "k", Value: f}, api.Step{Kind: api.StepValue, Key: "l", Value: f[8:20]})
	b.hold("shared")
	b.again(1 << 16)
	b.hold("opened again")
}

// Lists that are nil and lists that are empty are the same.
func TestNilAndEmpty(t *testing.T) {
	one, two := begin(t, 1<<16), begin(t, 1<<16)
	one.want("nil", api.OK, 0, api.Step{Kind: api.StepPut, Object: api.Object{Label: named('a'), Ark: fileOf("")}}, api.Step{Kind: api.StepValue, Key: "k"})
	two.want("empty", api.OK, 0, api.Step{Kind: api.StepPut, Object: api.Object{Label: named('a'), Ark: fileOf(""), Refs: []api.Label{}}}, api.Step{Kind: api.StepValue, Key: "k", Value: []byte{}})
	two.want("the same", api.OK, 0, api.Step{Kind: api.StepPut, Object: api.Object{Label: named('a'), Ark: fileOf("")}})
	one.want("no steps", api.OK, 0, []api.Step{}...)
	if filesOf(one.v) != filesOf(two.v) || tell(one.s) != tell(two.s) {
		t.Errorf("%q, %q", filesOf(one.v), filesOf(two.v))
	}
	if e, n := one.s.Apply([]api.Step{{Kind: api.StepPut, Object: api.Object{Label: named('b'), Ark: []byte{}}}}); e != api.ErrObject || n != 0 {
		t.Errorf("P12.1: an empty ark: %d, %d", e, n)
	}
}

// A device that is handed in is the shelf's: nothing of its bytes is kept beside it.
func TestHandedDisk(t *testing.T) {
	b := woven(t)
	d := b.v.Disk()
	s := mustOpen(t, journal.NewDevice(d), 1<<16)
	told := tell(s)
	overwrite(d.Files[0], '?')
	overwrite(d.Files[1], '?')
	if tell(s) != told {
		t.Errorf("%s", firstUnlike(tell(s), told))
	}
}
