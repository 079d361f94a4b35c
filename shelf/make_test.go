package shelf

import (
	"fmt"
	"slices"
	"strings"

	"graft/api"
	"graft/ark"
	"graft/digest"
	"graft/label"
)

// What the tests' shelves are made of.

// named is a label of one byte and a name: its letter says its place in order.
func named(letter byte) api.Label {
	var h api.Hash
	for i := range h {
		h[i] = letter
	}
	return api.Label{Hash: h, Name: string([]byte{letter})}
}

// numbered is a label that is unlike all others of this kind, and in no order.
func numbered(i int) api.Label {
	return api.Label{Hash: digest.Fold(digest.Of([]byte(fmt.Sprint(i)))), Name: fmt.Sprint("n", i)}
}

// fileOf is the archive of a file.
func fileOf(data string) []byte {
	b, e := ark.Print(api.Node{Kind: api.KindFile, Data: []byte(data)})
	if e != api.OK {
		panic("no archive")
	}
	return b
}

// sized is an archive of so many bytes, a multiple of eight, that is unlike others by its first letter.
func sized(n int, letter string) []byte {
	return fileOf(letter + strings.Repeat("x", n-112-len(letter)))
}

func objectWith(l api.Label, data []byte, refs ...api.Label) api.Object {
	return api.Object{Label: l, Ark: data, Refs: refs}
}

func put(l api.Label, data []byte, refs ...api.Label) api.Step {
	return putOf(objectWith(l, data, refs...))
}

func putOf(o api.Object) api.Step { return api.Step{Kind: api.StepPut, Object: o} }

func drop(l api.Label) api.Step { return api.Step{Kind: api.StepDrop, Label: l} }

func same(old, to api.Label) api.Step {
	return api.Step{Kind: api.StepSame, Same: api.Same{Old: old, New: to}}
}

func made(key string, to api.Label) api.Step {
	return api.Step{Kind: api.StepMade, Made: api.Made{Key: key, Label: to}}
}

func setTo(key, data string) api.Step {
	return api.Step{Kind: api.StepValue, Key: key, Value: []byte(data)}
}

func void(key string) api.Step { return api.Step{Kind: api.StepVoid, Key: key} }

// manyRefs is n labels in order.
func manyRefs(n int) []api.Label {
	var out []api.Label
	for i := range n {
		out = append(out, numbered(i))
	}
	return label.Sort(out)
}

func textOf(l api.Label) string {
	s, _ := label.Print(l)
	return s
}

// variant is an object in which one thing is another.
type variant struct {
	what  string
	right bool
	o     api.Object
}

// variants is objects with every edge of 12.1, around a right one.
func variants() []variant {
	f := fileOf("hi")
	a, b, c := named('a'), named('b'), named('c')
	of := func(what string, right bool, change func(o *api.Object)) variant {
		o := objectWith(c, slices.Clone(f), a, b)
		change(&o)
		return variant{what, right, o}
	}
	refs := func(what string, right bool, l ...api.Label) variant {
		return of(what, right, func(o *api.Object) { o.Refs = l })
	}
	maker := func(what string, right bool, text string) variant {
		return of(what, right, func(o *api.Object) { o.Maker = text })
	}
	name := func(what string, right bool, name string) variant {
		return of(what, right, func(o *api.Object) { o.Label.Name = name })
	}
	wrong := api.Label{Hash: a.Hash, Name: "a b"}
	return []variant{
		of("as it is", true, func(*api.Object) {}),
		name("no name", false, ""), name("a name with a point ahead", false, ".c"), name("211 bytes of name", true, strings.Repeat("c", 211)),
		name("212 bytes of name", false, strings.Repeat("c", 212)), name("a name with a blank", false, "c c"), name("a name with a byte above 127", false, "c\xff"),
		refs("no references", true), refs("itself among its references", true, a, b, c), refs("itself alone", true, c),
		refs("references out of order", false, b, a), refs("a reference twice", false, a, a), refs("the last reference twice", false, a, b, b),
		refs("a reference that is not printable", false, wrong), refs("a later one that is not printable", false, a, api.Label{Hash: b.Hash}),
		refs("one hash with two names, in order", true, a, api.Label{Hash: a.Hash, Name: "aa"}),
		refs("one hash with two names, not in order", false, api.Label{Hash: a.Hash, Name: "aa"}, a),
		refs("256 references", true, manyRefs(256)...), refs("257 references", false, manyRefs(257)...),
		of("no archive", false, func(o *api.Object) { o.Ark = nil }), of("a cut archive", false, func(o *api.Object) { o.Ark = f[:119] }),
		of("more than an archive", false, func(o *api.Object) { o.Ark = append(slices.Clone(f), 0) }),
		of("another archive", true, func(o *api.Object) { o.Ark = fileOf("ho") }),
		of("the greatest archive", true, func(o *api.Object) { o.Ark = sized(api.MaxArk, "g") }),
		maker("a maker", true, textOf(a)), maker("a maker's base", false, textOf(a)[len(api.Store):]), maker("a maker without its end", false, textOf(a)[:len(textOf(a))-1]),
		maker("a maker that is a blank", false, " "), maker("a maker with a way behind", false, textOf(a)+"/x"),
		of("Ca 1", true, func(o *api.Object) { o.Ca = 1 }), of("Ca 4", true, func(o *api.Object) { o.Ca = 4 }),
		of("Ca 5", false, func(o *api.Object) { o.Ca = 5 }), of("Ca 255", false, func(o *api.Object) { o.Ca = 255 }),
	}
}
