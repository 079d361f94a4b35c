package label

import (
	"bytes"
	"strings"
	"testing"

	"graft/api"
	"graft/digest"
)

// called is the label that a finger's text makes, by the words of P2.11.
func called(head string, inner api.Sum, name string) api.Label {
	text := head + ":sha256:" + digest.Hex(inner[:]) + ":/graft/store:" + name
	return api.Label{Hash: digest.Fold(digest.Of([]byte(text))), Name: name}
}

func holdLabel(t *testing.T, what string, want api.Label) func(api.Label, api.Errno) {
	return func(got api.Label, e api.Errno) {
		t.Helper()
		if got != want || e != api.OK {
			t.Errorf("%s = %v, %d, want %v", what, got, e, want)
		}
	}
}

func holdRefused(t *testing.T, what string, want api.Errno) func(api.Label, api.Errno) {
	return func(got api.Label, e api.Errno) {
		t.Helper()
		if got != (api.Label{}) || e != want {
			t.Errorf("%s = %v, %d, want %d", what, got, e, want)
		}
	}
}

// P2.11, P2.12: labels whose texts were made by another program.
func TestMadeTexts(t *testing.T) {
	ark := digest.Of([]byte("ark"))
	var hash api.Hash
	for i := range hash {
		hash[i] = byte(i + 1)
	}
	refs := []api.Label{{Hash: hash, Name: "b"}, {Name: "a"}}
	hold := func(l api.Label, e api.Errno) func(string) {
		return func(want string) {
			t.Helper()
			if text, f := Print(l); text != want || e != api.OK || f != api.OK {
				t.Errorf("%q, %d, %d, want %q", text, e, f, want)
			}
		}
	}
	hold(Text("hello", []byte("hi"), nil))("/graft/store/4iqc6rg1i703xqvxkmkqc4wa3zlk318i-hello")
	hold(Text("hello", []byte("hi"), refs))("/graft/store/3lwwml075fpvx7svz3q3mqk3bz26vblc-hello")
	hold(Source("tree", ark, nil, false))("/graft/store/6i7zmj8mqy7wszvbfrnlqiibzq463308-tree")
	hold(Source("tree", ark, refs[1:], true))("/graft/store/b1ljbdda1iv9yag6y0cmh17sx59ylg19-tree")
	hold(Fixed("tree", ark, false))("/graft/store/6i7zmj8mqy7wszvbfrnlqiibzq463308-tree")
	hold(Fixed("tree", ark, true))("/graft/store/jnl32cj1n55zcj0am5r0mf4nw1g0c7s7-tree")
	hold(Output(ark, "out", "tree"))("/graft/store/l7y7csqf2i4c53m1xch22024c473mnpl-tree")
	hold(Output(ark, "doc", "tree"))("/graft/store/fndddwr55glxbz9s58yxdj049ww3gd4g-tree-doc")
	hold(Member(ark, 63, "tree"))("/graft/store/5903p9pclnzqa9njki56x278n936jczx-tree")
}

// P2.12: Text and Source, and their errors in Say's order.
func TestTextSource(t *testing.T) {
	a, b := ":"+textOf(refA), ":"+textOf(refB)
	refs := []api.Label{refB, refA, refB}
	for _, data := range [][]byte{nil, {}, []byte("hi"), bytes.Repeat([]byte("x"), 1<<20)} {
		sum := digest.Of(data)
		holdLabel(t, "Text", called("text", sum, "n"))(Text("n", data, nil))
		holdLabel(t, "Text with references", called("text"+a+b, sum, "n"))(Text("n", data, refs))
		holdLabel(t, "Source", called("source", sum, "n"))(Source("n", sum, nil, false))
		holdLabel(t, "Source with itself", called("source:self", sum, "n"))(Source("n", sum, nil, true))
		holdLabel(t, "Source with references", called("source"+a+b, sum, "n"))(Source("n", sum, refs, false))
		holdLabel(t, "Source with all", called("source"+a+b+":self", sum, "n"))(Source("n", sum, refs, true))
	}
	long := strings.Repeat("n", 212)
	many := make([]api.Label, 257)
	bad := []api.Label{refA, {Name: ""}}
	for _, c := range []struct {
		name string
		refs []api.Label
		want api.Errno
	}{
		{"", nil, api.ErrName}, {"", many, api.ErrName}, {long, bad, api.ErrLong}, {"n", many, api.ErrLong}, {"n", bad, api.ErrName},
		{"n", []api.Label{{Name: long}}, api.ErrLong}, {".n", nil, api.ErrName}, {"n n", nil, api.ErrName},
	} {
		holdRefused(t, "Text", c.want)(Text(c.name, []byte("hi"), c.refs))
		holdRefused(t, "Source", c.want)(Source(c.name, sumS, c.refs, true))
	}
}

// P2.12: Fixed; example 10.
func TestFixed(t *testing.T) {
	source, _ := Source("n", sumS, nil, false)
	holdLabel(t, "Fixed of an archive", source)(Fixed("n", sumS, false))
	inner := digest.Of([]byte("fixed:out:sha256:" + digest.Hex(sumS[:]) + ":"))
	holdLabel(t, "Fixed of a file", called("output:out", inner, "n"))(Fixed("n", sumS, true))
	for _, flat := range []bool{false, true} {
		holdRefused(t, "Fixed", api.ErrName)(Fixed("", sumS, flat))
		holdRefused(t, "Fixed", api.ErrName)(Fixed("a/b", sumS, flat))
		holdRefused(t, "Fixed", api.ErrLong)(Fixed(strings.Repeat("n", 212), sumS, flat))
		if _, e := Fixed(strings.Repeat("n", 211), sumS, flat); e != api.OK {
			t.Errorf("Fixed with a name of 211 bytes: %d", e)
		}
	}
}

// P2.12: Output; example 9.
func TestOutput(t *testing.T) {
	n := func(k int) string { return strings.Repeat("n", k) }
	holdLabel(t, "Output out", called("output:out", sumS, "x"))(Output(sumS, "out", "x"))
	holdLabel(t, "Output doc", called("output:doc", sumS, "x-doc"))(Output(sumS, "doc", "x"))
	holdLabel(t, "Output Out", called("output:Out", sumS, "x-Out"))(Output(sumS, "Out", "x"))
	holdLabel(t, "Output out of a long name", called("output:out", sumS, n(211)))(Output(sumS, "out", n(211)))
	holdLabel(t, "Output doc of 207 bytes", called("output:doc", sumS, n(207)+"-doc"))(Output(sumS, "doc", n(207)))
	for _, c := range []struct {
		out, name string
		want      api.Errno
	}{
		{"doc", n(210), api.ErrLong}, {"doc", n(208), api.ErrLong}, {n(211), "x", api.ErrLong}, {n(212), "x", api.ErrLong},
		{"", "a b", api.ErrName}, {"", "x", api.ErrName}, {"", n(212), api.ErrLong}, {n(212), "", api.ErrName}, {n(212), "a b", api.ErrName},
		{".o", n(210), api.ErrName}, {"a b", n(211), api.ErrName}, {"a/b", n(212), api.ErrLong}, {".o", "x", api.ErrName},
		{"out", "", api.ErrName}, {"out", ".x", api.ErrName}, {"out", n(212), api.ErrLong},
	} {
		holdRefused(t, "Output of "+c.out+" and "+c.name, c.want)(Output(sumS, c.out, c.name))
	}
}

// P2.12: Member.
func TestMember(t *testing.T) {
	holdLabel(t, "Member 0", called("member:0", sumS, "x"))(Member(sumS, 0, "x"))
	holdLabel(t, "Member 63", called("member:63", sumS, "x"))(Member(sumS, 63, "x"))
	holdRefused(t, "Member 64", api.ErrArg)(Member(sumS, 64, "x"))
	holdRefused(t, "Member -1", api.ErrArg)(Member(sumS, -1, "x"))
	holdRefused(t, "Member of no name", api.ErrName)(Member(sumS, 64, ""))
	holdRefused(t, "Member of a long name", api.ErrLong)(Member(sumS, -1, strings.Repeat("x", 212)))
}

// What is handed to Text stays as it was.
func TestTextMemory(t *testing.T) {
	data := []byte("some data")
	Text("x", data[:4], nil)
	if string(data) != "some data" {
		t.Errorf("data became %q", data)
	}
}
