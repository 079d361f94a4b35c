package shelf

import (
	"fmt"
	"slices"
	"strings"
	"testing"

	"graft/api"
	"graft/journal"
)

// P12.1: a kind that is none of the six.
func TestKinds(t *testing.T) {
	b := begin(t, 1<<20)
	for _, kind := range []int{0, 7, -1, 8, 1 << 40, -1 << 63} {
		x := put(named('a'), fileOf("hi"))
		x.Kind, x.Label, x.Key = kind, named('a'), "k"
		b.want(fmt.Sprint("kind ", kind), api.ErrArg, 0, x)
		b.want(fmt.Sprint("kind ", kind), api.ErrArg, 1, setTo("k", "v"), x)
	}
	b.hold("nothing came")
}

// P12.1: fields that a step's kind doesn't use are not looked at.
func TestUnusedFields(t *testing.T) {
	f := fileOf("hi")
	a, wrong := named('a'), api.Label{Name: "no name"}
	full := api.Step{
		Object: api.Object{Label: wrong, Refs: []api.Label{wrong, wrong}, Ark: []byte("no archive"), Maker: "none", Ca: 77},
		Label:  wrong, Same: api.Same{Old: wrong, New: wrong}, Made: api.Made{Label: wrong}, Key: strings.Repeat("k", 256), Value: make([]byte, 65537),
	}
	b := begin(t, 1<<20)
	for _, x := range []api.Step{put(a, f), same(named('o'), a), made("m", a), setTo("k", "v"), void("k"), drop(a)} {
		y := full
		y.Kind = x.Kind
		switch x.Kind {
		case api.StepPut:
			y.Object = x.Object
		case api.StepDrop:
			y.Label = x.Label
		case api.StepSame:
			y.Same = x.Same
		case api.StepMade:
			y.Made = x.Made
		case api.StepValue:
			y.Key, y.Value = x.Key, x.Value
		case api.StepVoid:
			y.Key = x.Key
		}
		b.want(fmt.Sprint("kind ", x.Kind), api.OK, 0, y)
		b.hold(fmt.Sprint("kind ", x.Kind))
	}
}

// 12.1, P12.1: each way of being right, and of not being right.
func TestRight(t *testing.T) {
	f := fileOf("hi")
	for _, x := range variants() {
		b := begin(t, 1<<22)
		b.want("ready", api.OK, 0, put(named('a'), f), put(named('b'), f))
		for _, r := range x.o.Refs {
			if strings.HasPrefix(r.Name, "n") {
				b.want("ready", api.OK, 0, put(r, f))
			}
		}
		want := api.OK
		switch {
		case !x.right:
			want = api.ErrObject
		case slices.Contains(x.o.Refs, api.Label{Hash: named('a').Hash, Name: "aa"}):
			want = api.ErrNone // the object is right, but not closed
		}
		b.wantAt(x.what, want, 1, fine, putOf(x.o))
		b.hold(x.what)
	}
}

// P12.1 answers 0 beside OK, so a step's number is told beside an error alone.
func (b *both) wantAt(what string, e api.Errno, n int, steps ...api.Step) {
	b.t.Helper()
	if e == api.OK {
		n = 0
	}
	b.want(what, e, n, steps...)
}

// P12.1, put: an object with this Hash is on the shelf.
func TestPutAgain(t *testing.T) {
	f := fileOf("hi")
	a, z := named('a'), named('z')
	o := api.Object{Label: a, Refs: []api.Label{z}, Ark: f, Maker: textOf(z), Ca: 2}
	turn := func(change func(o *api.Object)) api.Object {
		x := o
		change(&x)
		return x
	}
	clash := api.Label{Hash: a.Hash, Name: "other"}
	for _, x := range []struct {
		what string
		e    api.Errno
		o    api.Object
	}{
		{"all the same", api.OK, o}, {"the same in other memory", api.OK, turn(func(o *api.Object) { o.Refs, o.Ark = []api.Label{z}, fileOf("hi") })},
		{"another name", api.ErrClash, turn(func(o *api.Object) { o.Label = clash })},
		{"another name and all else", api.ErrClash, objectWith(clash, fileOf("new"))},
		{"no references", api.ErrThere, turn(func(o *api.Object) { o.Refs = nil })}, {"more references", api.ErrThere, turn(func(o *api.Object) { o.Refs = []api.Label{a, z} })},
		{"another reference", api.ErrThere, turn(func(o *api.Object) { o.Refs = []api.Label{a} })},
		{"a new ark", api.ErrThere, turn(func(o *api.Object) { o.Ark = fileOf("ho") })}, {"an ark of another object", api.ErrThere, turn(func(o *api.Object) { o.Ark = fileOf("z") })},
		{"no maker", api.ErrThere, turn(func(o *api.Object) { o.Maker = "" })}, {"another maker", api.ErrThere, turn(func(o *api.Object) { o.Maker = textOf(a) })},
		{"another Ca", api.ErrThere, turn(func(o *api.Object) { o.Ca = 1 })},
		{"not right ahead of a clash", api.ErrObject, turn(func(o *api.Object) { o.Label, o.Ca = clash, 5 })},
		{"not right ahead of another one", api.ErrObject, turn(func(o *api.Object) { o.Maker = "x" })},
	} {
		b := begin(t, 1<<20)
		b.want("ready", api.OK, 0, put(z, fileOf("z")), putOf(o))
		b.wantAt(x.what, x.e, 1, fine, putOf(x.o))
		b.hold(x.what)
		b.wantAt(x.what+", in one transaction", x.e, 2, drop(a), putOf(o), putOf(x.o))
		b.hold(x.what)
	}
}

// fine is a step that always goes well.
var fine = setTo("always", "")

// P12.1: an ark's number: a new one, one that is there, one that went with its last object and comes again.
func TestArkNumbers(t *testing.T) {
	f, g := fileOf("hi"), fileOf("ho")
	a, c, d := named('a'), named('c'), named('d')
	b := begin(t, 1<<20)
	b.want("two arks", api.OK, 0, put(a, f), put(c, g))
	b.want("an ark that is there", api.OK, 0, put(d, f))
	b.want("one of two goes", api.OK, 0, drop(a))
	b.want("the ark is there still", api.OK, 0, put(a, f))
	b.want("both go", api.OK, 0, drop(a), drop(d))
	b.hold("the ark has gone")
	b.want("it comes again", api.OK, 0, put(a, f))
	b.want("it goes and comes in one transaction", api.OK, 0, drop(a), put(d, f), put(a, f))
	b.want("refused: no number is used up", api.ErrNone, 1, put(named('e'), fileOf("new")), drop(named('z')))
	b.want("the next number", api.OK, 0, put(named('e'), fileOf("newer")))
	b.hold("the next number")
	b.again(1 << 20)
	b.want("opened again: the next number", api.OK, 0, put(named('f'), fileOf("newest")))
	b.hold("opened again")
	last := journalPayloads(b)
	if want := arkEntry(string(fileOf("newest"))) + putEntry(objectWith(named('f'), nil), 5); !slices.Equal(last, []string{want}) {
		t.Errorf("12.3: %q, want %q", last, want)
	}
}

// journalPayloads is the payloads of the last batch.
func journalPayloads(b *both) []string {
	s, _, _, _ := journal.Replay(b.v.Disk())
	return textsOf(s.Batches[len(s.Batches)-1])
}

// P12.1, drop: what goes with an object, and what does not.
func TestDrop(t *testing.T) {
	f := fileOf("hi")
	a, c, d := named('a'), named('c'), named('d')
	b := begin(t, 1<<20)
	b.want("of none", api.ErrNone, 0, drop(a))
	b.want("ready", api.OK, 0, put(a, f), put(c, f, a), put(d, f, d), same(named('x'), a), same(named('y'), a), same(named('z'), c), same(a, c), same(c, d),
		made("a", a), made("b", a), made("c", c), setTo("a", textOf(a)))
	b.want("another name", api.ErrNone, 0, drop(api.Label{Hash: a.Hash, Name: "other"}))
	b.want("another hash", api.ErrNone, 0, drop(api.Label{Hash: named('e').Hash, Name: "a"}))
	b.want("needed", api.ErrNeeded, 0, drop(a))
	b.want("needed, behind others", api.ErrNeeded, 2, setTo("k", "v"), put(named('e'), f), drop(a))
	b.want("twice", api.ErrNone, 1, drop(d), drop(d))
	b.want("one that needs itself alone", api.OK, 0, drop(d))
	b.hold("d has gone, and the same that led there")
	b.want("both", api.OK, 0, drop(a), drop(c))
	b.hold("all have gone")
	if len(b.s.Sames()) != 0 || len(b.s.Mades()) != 0 || len(b.s.Keys()) != 1 || b.s.Stat().Arks != 0 {
		t.Errorf("P12.1: %+v", b.s.Stat())
	}
}

// P12.1, 3.: rings, in either order; what lacks something when all is done.
func TestRings(t *testing.T) {
	f := fileOf("hi")
	a, c, d := named('a'), named('c'), named('d')
	for _, x := range []struct {
		what  string
		e     api.Errno
		n     int
		steps []api.Step
	}{
		{"one that is alone", api.ErrNone, 0, []api.Step{put(a, f, c)}}, {"the other", api.ErrNone, 0, []api.Step{put(c, f, a)}},
		{"both", api.OK, 0, []api.Step{put(a, f, c), put(c, f, a)}}, {"both the other way", api.OK, 0, []api.Step{put(c, f, a), put(a, f, c)}},
		{"two that lack one", api.ErrNone, 1, []api.Step{setTo("k", ""), put(a, f, d), put(c, f, d)}},
		{"the second one lacks", api.ErrNone, 1, []api.Step{put(a, f, c), put(c, f, a, d)}},
		{"the one that lacks has gone", api.OK, 0, []api.Step{put(a, f, c), drop(a)}},
		{"it has come back whole", api.OK, 0, []api.Step{put(a, f, c), drop(a), put(a, f)}},
		{"it has come back not whole", api.ErrNone, 0, []api.Step{put(a, f), drop(a), put(a, f, c)}},
		{"its hash has come back under another name, not whole", api.ErrNone, 2, []api.Step{put(a, f, c), drop(a), put(api.Label{Hash: a.Hash, Name: "aa"}, f, c)}},
		{"what it needs has another name", api.ErrNone, 1, []api.Step{put(c, f), put(a, f, api.Label{Hash: c.Hash, Name: "cc"})}},
		{"what it needs has come and gone", api.ErrNone, 1, []api.Step{put(c, f), put(a, f, c), drop(c)}},
		{"what it needs has gone and come", api.OK, 0, []api.Step{put(c, f), drop(c), put(a, f, c), put(c, f)}},
		{"a drop ahead of a put that lacks", api.ErrNeeded, 1, []api.Step{put(c, f), drop(c), put(a, f, c)}},
	} {
		b := begin(t, 1<<20)
		b.want(x.what, x.e, x.n, x.steps...)
		b.hold(x.what)
	}
	for _, order := range [][]api.Label{{a, c, d}, {a, d, c}, {c, a, d}, {c, d, a}, {d, a, c}, {d, c, a}} {
		b := begin(t, 1<<20)
		b.want("a ring", api.OK, 0, put(a, f, c), put(c, f, d), put(d, f, a))
		for _, l := range order {
			b.want("one of the ring", api.ErrNeeded, 0, drop(l))
			if e, _ := b.apply(drops(slices.DeleteFunc(slices.Clone(order), func(x api.Label) bool { return x == l })...)...); e != api.ErrNeeded {
				t.Errorf("P12.1: all of a ring but %s: %d", l.Name, e)
			}
		}
		b.want("the whole ring", api.OK, 0, drops(order...)...)
		b.hold("the whole ring")
	}
}

func drops(l ...api.Label) []api.Step {
	var out []api.Step
	for _, x := range l {
		out = append(out, drop(x))
	}
	return out
}

// P12.1, 3.: which of two drops is told hangs on their order alone: the first whose label is needed.
func TestFirstNeeded(t *testing.T) {
	f := fileOf("hi")
	a, c, d, e := named('a'), named('c'), named('d'), named('e')
	b := begin(t, 1<<20)
	b.want("ready", api.OK, 0, put(a, f), put(c, f, a), put(d, f, c), put(e, f))
	b.want("e is not needed", api.ErrNeeded, 1, drop(e), drop(c), drop(a))
	b.want("a is not needed when c has gone", api.ErrNeeded, 2, drop(e), drop(a), drop(c))
	b.want("a drop of what has come back", api.OK, 0, drop(a), put(a, f))
	b.want("it has come back under another name", api.ErrNeeded, 0, drop(a), put(api.Label{Hash: a.Hash, Name: "aa"}, f))
	b.want("a drop twice, with a put between", api.ErrNeeded, 0, drop(a), put(a, f), drop(a))
	b.want("a put ahead of a drop of what it needs", api.ErrNone, 0, put(d, f, c), drop(c))
	b.want("the drop ahead of the put", api.ErrNeeded, 0, drop(c), put(d, f, c))
	b.want("all the same, and a drop of what it needs", api.ErrNone, 1, put(e, f), put(c, f, a), drop(a))
	b.hold("nothing was done")
}

// P12.1, same: each error in its order.
func TestSame(t *testing.T) {
	f := fileOf("hi")
	a, c, x, wrong := named('a'), named('c'), named('x'), api.Label{Name: ""}
	b := begin(t, 1<<20)
	b.want("ready", api.OK, 0, put(a, f), put(c, f))
	b.want("not printable, and no such object", api.ErrArg, 0, same(wrong, x))
	b.want("not printable", api.ErrArg, 0, same(wrong, a))
	b.want("a name of 212 bytes", api.ErrArg, 0, same(api.Label{Name: strings.Repeat("n", 212)}, a))
	b.want("a name of 211 bytes", api.OK, 0, same(api.Label{Name: strings.Repeat("n", 211)}, a))
	b.want("no such object", api.ErrNone, 0, same(x, named('d')))
	b.want("no object of this name", api.ErrNone, 0, same(x, api.Label{Hash: a.Hash, Name: "aa"}))
	b.want("an object that comes later", api.ErrNone, 0, same(x, named('d')), put(named('d'), f))
	b.want("an object that has gone", api.ErrNone, 1, drop(a), same(x, a))
	b.want("fine", api.OK, 0, same(x, a))
	b.want("once more", api.OK, 0, same(x, a))
	b.want("another one", api.ErrThere, 0, same(x, c))
	b.want("another one that is not there", api.ErrNone, 0, same(x, named('d')))
	b.want("to itself", api.OK, 0, same(a, a))
	b.want("the same hash and another name is another Old", api.OK, 0, same(api.Label{Hash: x.Hash, Name: "y"}, c))
	b.want("it went with its object", api.OK, 0, drop(a), same(x, c))
	b.hold("x leads to c")
}

// P12.1, made: each error in its order; keys of each length.
func TestMade(t *testing.T) {
	f := fileOf("hi")
	a, c, long := named('a'), named('c'), strings.Repeat("k", 255)
	b := begin(t, 1<<20)
	b.want("ready", api.OK, 0, put(a, f), put(c, f))
	b.want("no key, and no such object", api.ErrArg, 0, made("", named('x')))
	b.want("256 bytes", api.ErrArg, 0, made(long+"k", a))
	b.want("no such object", api.ErrNone, 0, made("k", named('x')))
	b.want("no object of this name", api.ErrNone, 0, made("k", api.Label{Hash: a.Hash, Name: "aa"}))
	b.want("1 and 255 bytes", api.OK, 0, made("\x00", a), made(long, c))
	b.want("once more", api.OK, 0, made(long, c))
	b.want("another one", api.ErrThere, 1, made("\x00", a), made(long, a))
	b.want("another one that is not there", api.ErrNone, 0, made(long, named('x')))
	b.want("it went with its object", api.OK, 0, drop(c), made(long, a))
	b.hold("both lead to a")
}

// P12.1, value and void: each error in its order; keys and values of each length.
func TestValue(t *testing.T) {
	long, great := strings.Repeat("k", 255), strings.Repeat("v", 65536)
	b := begin(t, 1<<22)
	b.want("no key, and too long", api.ErrArg, 0, setTo("", great+"v"))
	b.want("256 bytes, and too long", api.ErrArg, 0, setTo(long+"k", great+"v"))
	b.want("too long", api.ErrLong, 0, setTo("k", great+"v"))
	b.want("1 and 255 bytes, the shortest and the longest", api.OK, 0, setTo("k", ""), setTo(long, great))
	b.hold("both")
	b.want("the same once more", api.OK, 0, setTo("k", ""))
	if got := journalPayloads(b); !slices.Equal(got, []string{valueEntry("k", "")}) {
		t.Errorf("P12.1: a value that was so already has its entry: %q", got)
	}
	b.want("another one", api.OK, 0, setTo("k", "v"), setTo("k", "w"))
	b.hold("another one")
	for _, key := range []string{"", "l", long + "k"} {
		b.want("void of none", api.ErrNone, 0, void(key))
	}
	b.want("void", api.OK, 0, void("k"))
	b.want("void twice", api.ErrNone, 1, void(long), void(long))
	b.want("there and back", api.OK, 0, void(long), setTo(long, "x"), void(long))
	b.hold("none")
}

// P12.1: two errors in one transaction, and the errors of 2. ahead of those of 3.
func TestFirstError(t *testing.T) {
	f := fileOf("hi")
	a, c := named('a'), named('c')
	b := begin(t, 1<<20)
	b.want("ready", api.OK, 0, put(c, f), put(a, f, c))
	b.want("two wrong steps", api.ErrNone, 1, setTo("k", "v"), void("x"), api.Step{})
	b.want("the other way", api.ErrArg, 1, setTo("k", "v"), api.Step{}, void("x"))
	b.want("a lack at 0, a wrong step at 2", api.ErrLong, 2, put(named('d'), f, named('e')), drop(c), setTo("k", strings.Repeat("v", 65537)))
	b.want("a needed one at 0, a wrong step at 1", api.ErrObject, 1, drop(c), put(named('d'), nil))
	b.want("two lacks", api.ErrNone, 1, setTo("k", "v"), put(named('d'), f, named('e')), put(named('f'), f, named('g')))
	b.want("a lack and a needed one", api.ErrNone, 0, put(named('d'), f, named('e')), drop(c))
	b.want("a needed one and a lack", api.ErrNeeded, 0, drop(c), put(named('d'), f, named('e')))
	b.hold("nothing came")
}

// P12.1: a transaction that undoes itself, and transactions without an entry.
func TestNothingChanged(t *testing.T) {
	f := fileOf("hi")
	a, c := named('a'), named('c')
	b := begin(t, 1<<20)
	b.want("no steps", api.OK, 0)
	if got := journalPayloads(b); len(got) != 0 || b.s.Last() != 1 {
		t.Errorf("P12.1: %q", got)
	}
	b.want("put and drop", api.OK, 0, put(a, f), same(c, a), made("m", a), setTo("k", "v"), void("k"), drop(a))
	b.hold("nothing is left")
	if got := journalPayloads(b); !slices.Equal(got, []string{arkEntry(string(f)) + putEntry(objectWith(a, f), 0) + sameEntry(c, a) + madeEntry("m", a) + valueEntry("k", "v") + voidEntry("k") + dropEntry(a)}) {
		t.Errorf("P12.1: %q", got)
	}
	b.want("ready", api.OK, 0, put(a, f), same(c, a), made("m", a))
	b.want("all there already", api.OK, 0, put(a, f), same(c, a), made("m", a), put(a, f))
	if got := journalPayloads(b); len(got) != 0 {
		t.Errorf("P12.1: %q", got)
	}
	b.hold("all there already")
	b.again(1 << 20)
	b.hold("opened again")
}

// P12.1: no steps, 8192 steps and one more.
func TestManySteps(t *testing.T) {
	b := begin(t, 1<<20)
	steps := slices.Repeat([]api.Step{setTo("k", "v")}, 8192)
	b.want("8192", api.OK, 0, steps...)
	b.want("8193", api.ErrLong, 0, append(steps, api.Step{})...)
	b.want("8193 of which the first is wrong", api.ErrLong, 0, make([]api.Step, 8193)...)
	b.want("the last one is wrong", api.ErrArg, 8191, append(steps[:8191:8191], api.Step{})...)
	b.hold("8192 values")
}
