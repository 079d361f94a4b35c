package wire

import (
	"encoding/binary"
	"slices"
	"strings"

	"graft/api"
	"graft/ark"
	"graft/engine"
	"graft/label"
)

// The chapter, read plainly: all bytes at once, from the first one on, and each question as it stands there.

// plainFields is the table of 16.1: L, T, D, N are Labels, Text, Data, Number.
var plainFields = map[int]string{1: "N", 2: "DN", 3: "LTD", 4: "TD", 5: "LN", 6: "L", 7: "L", 8: "LN", 9: "", 10: "L", 11: ""}

// fault is what plain reading gives up with.
type fault struct {
	e  api.Errno
	at int
}

type plainReader struct {
	data string
	at   int
}

func (r *plainReader) octets(n int) string {
	if len(r.data)-r.at < n {
		panic(fault{api.ErrShort, len(r.data)})
	}
	r.at += n
	return r.data[r.at-n : r.at]
}

func (r *plainReader) number() int {
	return int(binary.LittleEndian.Uint64([]byte(r.octets(8))))
}

// word is one of at most so many bytes, or of none; ask asks of its bytes whether they may be.
func (r *plainReader) word(most int, has bool, ask func(s string) bool) string {
	start := r.at
	n := r.number()
	if n < 0 || n > most {
		panic(fault{api.ErrLong, start})
	}
	if n != 0 && !has {
		panic(fault{api.ErrWire, start})
	}
	s := r.octets(n)
	if !ask(s) {
		panic(fault{api.ErrWire, start})
	}
	for r.at%8 != 0 {
		if r.octets(1) != "\x00" {
			panic(fault{api.ErrPadding, r.at - 1})
		}
	}
	return s
}

// plainDecode is P16.2: of a request, or of an answer, whose Err stands in Op.
func plainDecode(data string, request bool) (a api.Ask, e api.Errno, n int) {
	defer func() {
		if f, is := recover().(fault); is {
			a, e, n = api.Ask{}, f.e, f.at
		}
	}()
	r := &plainReader{data, 0}
	a.Op = r.number()
	fields, known := plainFields[a.Op]
	if !request {
		fields, known = "LTDN", true
	}
	if !known {
		panic(fault{api.ErrVoid, 0})
	}
	has := func(field byte) bool { return slices.Contains([]byte(fields), field) }
	count := r.number()
	if count < 0 || count > 4096 {
		panic(fault{api.ErrLong, 8})
	}
	if count != 0 && !has('L') {
		panic(fault{api.ErrWire, 8})
	}
	for range count {
		text := r.word(257, true, func(s string) bool { _, e, _ := label.Parse(s); return e == api.OK })
		l, _, _ := label.Parse(text)
		a.Labels = append(a.Labels, l)
	}
	any := func(string) bool { return true }
	a.Text = r.word(2097152, has('T'), any)
	a.Data = []byte(r.word(2097152, has('D'), any))
	a.Number = r.number()
	if a.Number != 0 && !has('N') {
		panic(fault{api.ErrWire, r.at - 8})
	}
	return a, api.OK, r.at
}

func plainDecodeSay(data string) (api.Say, api.Errno, int) {
	a, e, n := plainDecode(data, false)
	return api.Say{Err: api.Errno(a.Op), Labels: a.Labels, Text: a.Text, Data: a.Data, Number: a.Number}, e, n
}

// plainEncode is P16.1, of a request or of an answer, whose Err stands in Op.
func plainEncode(a api.Ask, request bool) (string, api.Errno) {
	fields, known := plainFields[a.Op]
	if request && !known {
		return "", api.ErrVoid
	}
	if !request {
		fields = "LTDN"
	}
	if len(a.Labels) > 4096 {
		return "", api.ErrLong
	}
	var words strings.Builder
	for _, l := range a.Labels {
		text, e := label.Print(l)
		if e != api.OK {
			return "", e
		}
		words.WriteString(word(text))
	}
	if len(a.Text) > 2097152 || len(a.Data) > 2097152 {
		return "", api.ErrLong
	}
	for field, there := range map[byte]bool{'L': len(a.Labels) > 0, 'T': a.Text != "", 'D': len(a.Data) > 0, 'N': a.Number != 0} {
		if there && !slices.Contains([]byte(fields), field) {
			return "", api.ErrWire
		}
	}
	return number(a.Op) + number(len(a.Labels)) + words.String() + word(a.Text) + word(string(a.Data)) + number(a.Number), api.OK
}

func plainEncodeSay(a api.Say) (string, api.Errno) {
	return plainEncode(api.Ask{Op: int(a.Err), Labels: a.Labels, Text: a.Text, Data: a.Data, Number: a.Number}, false)
}

// plainSession is P16.3 and P16.4: what a session answers to all these bytes, and whether it goes on.
func plainSession(e *engine.Engine, data string) (out string, open bool) {
	say := func(a api.Say) {
		s, e := plainEncodeSay(a)
		if e != api.OK {
			panic("an answer that can't be said: " + showSay(a))
		}
		out += s
	}
	for first := true; ; first = false {
		a, f, n := plainDecode(data, true)
		switch {
		case f == api.ErrShort:
			return out, true
		case f != api.OK:
			say(api.Say{Err: f, Number: n})
			return out, false
		case first && a.Op == 1 && a.Number == 1:
			say(api.Say{Text: "graft-wire-1", Number: 1})
		case first:
			say(api.Say{Err: api.ErrVoid})
			return out, false
		case a.Op == 11:
			say(api.Say{})
			return out, false
		case a.Op == 1:
			say(api.Say{Err: api.ErrVoid})
		default:
			say(plainAnswer(e, a))
		}
		data = data[n:]
	}
}

// plainAnswer is P16.5.
func plainAnswer(e *engine.Engine, a api.Ask) api.Say {
	if (a.Op == 6 || a.Op == 7 || a.Op == 8) && len(a.Labels) != 1 {
		return api.Say{Err: api.ErrArg}
	}
	switch a.Op {
	case 2:
		objects, f, at := plainIntake(string(a.Data))
		if f != api.OK {
			return api.Say{Err: f, Number: at}
		}
		return plainOutcome(e.Import(objects, a.Number))
	case 3:
		o := e.AddText(a.Text, a.Data, a.Labels)
		return plainOutcome(o, o.At)
	case 4:
		tree, f, at := ark.Parse(a.Data)
		if f != api.OK {
			return api.Say{Err: f, Number: at}
		}
		o := e.AddTree(a.Text, tree)
		return plainOutcome(o, o.At)
	case 5:
		o := e.Rewrite(a.Labels, a.Number)
		var labels []api.Label
		for _, x := range o.Map {
			labels = append(append(labels, x.Old), x.New)
		}
		return plainOutcome(o, labels...)
	case 6:
		l, f := e.Lookup(a.Labels[0])
		return plainLook(f, api.Say{Labels: plainPrintable(l)})
	case 7:
		o, f := e.Read(a.Labels[0])
		return plainLook(f, api.Say{Labels: append(plainPrintable(o.Label), o.Refs...), Text: o.Maker, Data: o.Ark, Number: int(o.Ca)})
	case 8:
		return plainOutcome(e.Verify(a.Labels[0], a.Number))
	case 9:
		return api.Say{Labels: e.Shelf().List()}
	}
	return plainExport(e, a.Labels)
}

func plainLook(f api.Errno, a api.Say) api.Say {
	if f != api.OK {
		return api.Say{Err: f}
	}
	return a
}

func plainExport(e *engine.Engine, roots []api.Label) api.Say {
	labels, f, at := e.Shelf().Closure(roots)
	if f != api.OK {
		return api.Say{Err: f, Number: at}
	}
	var objects []api.Object
	for _, l := range labels {
		o, _ := e.Shelf().Get(l)
		objects = append(objects, o)
	}
	stream := streamOf(objects...)
	if len(stream) > 2097152 {
		return api.Say{Err: api.ErrLong}
	}
	return api.Say{Data: []byte(stream)}
}

func plainPrintable(labels ...api.Label) []api.Label {
	return slices.DeleteFunc(labels, func(l api.Label) bool { _, e := label.Print(l); return e != api.OK })
}

func plainOutcome(o api.Outcome, labels ...api.Label) api.Say {
	out := api.Say{Err: o.Err, Number: o.Place}
	if o.Err == api.OK {
		out.Labels = plainPrintable(labels...)
		return out
	}
	if at, other := textOf(o.At), textOf(o.Other); at != "" || other != "" {
		out.Text = at + " " + other
	}
	if two := word(string(o.First)) + word(string(o.Second)); len(o.First) > 0 && len(two) <= 2097152 {
		out.Data = []byte(two)
	}
	return out
}

// plainFeed is P16.7 of all that was fed: the objects so far, whether the end has come, and what is wrong.
func plainFeed(data string) (objects []api.Object, ended bool, e api.Errno, at int) {
	for i := range 8 {
		if i == len(data) {
			return nil, false, api.OK, 0
		}
		if data[i] != "graftexp"[i] {
			return nil, false, api.ErrMagic, i
		}
	}
	for at := 8; ; {
		rest := data[at:]
		if ended && rest != "" {
			return nil, false, api.ErrTail, at
		}
		if ended || len(rest) < 13 {
			return objects, ended, api.OK, 0
		}
		if sum(rest[:9]) != rest[9:13] {
			return nil, false, api.ErrSum, at
		}
		kind, n := rest[0], int(binary.LittleEndian.Uint64([]byte(rest[1:9])))
		if kind != 1 && kind != 2 || n < 0 || kind == 1 && n > 2097152 || kind == 2 && n != 8 || kind == 1 && len(objects) == 4096 {
			return nil, false, api.ErrRecord, at
		}
		if len(rest) < 13+n+4 {
			return objects, false, api.OK, 0
		}
		body := rest[13 : 13+n]
		if sum(body) != rest[13+n:13+n+4] {
			return nil, false, api.ErrSum, at + 13 + n
		}
		if kind == 2 {
			ended = body == number(len(objects))
		}
		o, right := plainBody(body)
		if kind == 2 && !ended || kind == 1 && !right {
			return nil, false, api.ErrObject, at
		}
		if kind == 1 {
			objects = append(objects, o)
		}
		at += 13 + n + 4
	}
}

// plainIntake is what an Intake of all these bytes comes to.
func plainIntake(data string) ([]api.Object, api.Errno, int) {
	objects, ended, e, at := plainFeed(data)
	if e != api.OK {
		return nil, e, at
	}
	if !ended {
		return nil, api.ErrShort, len(data)
	}
	return objects, api.OK, 0
}

// plainBody is the right object of a body: the one that has just these bytes for one.
func plainBody(body string) (o api.Object, right bool) {
	defer func() {
		if recover() != nil {
			o, right = api.Object{}, false
		}
	}()
	r := &plainReader{body, 0}
	text := func() string {
		s := r.octets(r.number())
		r.octets((8 - len(s)%8) % 8)
		return s
	}
	named := func() api.Label { l, _, _ := label.Parse(text()); return l }
	o.Label = named()
	for range r.number() {
		o.Refs = append(o.Refs, named())
	}
	o.Maker = text()
	o.Ca = api.Ca(r.number())
	o.Ark = []byte(text())
	return o, bodyOf(o) == body && plainRight(o)
}

// plainRight is 16.3's right object.
func plainRight(o api.Object) bool {
	for i, l := range append([]api.Label{o.Label}, o.Refs...) {
		if _, e := label.Print(l); e != api.OK {
			return false
		}
		if i > 1 && label.Compare(o.Refs[i-2], l) != -1 {
			return false
		}
	}
	_, maker, _ := label.Parse(o.Maker)
	_, archive, _ := ark.Parse(o.Ark)
	return len(o.Refs) <= 256 && (o.Maker == "" || maker == api.OK) && o.Ca <= 4 && archive == api.OK
}
