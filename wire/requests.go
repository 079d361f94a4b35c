package wire

import (
	"graft/api"
	"graft/ark"
	"graft/fit"
	"graft/label"
	"graft/lay"
)

// requests is the table of requests: by its Op, the method that answers it.
func (s *Session) requests() [api.OpBye + 1]func(api.Ask) api.Say {
	return [...]func(api.Ask) api.Say{
		api.OpHello:   s.hello,
		api.OpImport:  s.importAll,
		api.OpText:    s.addText,
		api.OpTree:    s.addTree,
		api.OpRewrite: s.rewrite,
		api.OpLookup:  s.lookup,
		api.OpRead:    s.read,
		api.OpVerify:  s.verify,
		api.OpList:    s.list,
		api.OpExport:  s.export,
		api.OpBye:     s.bye,
	}
}

// hello answers a later one: a session is greeted once.
func (s *Session) hello(api.Ask) api.Say {
	return api.Say{Err: api.ErrVoid}
}

func (s *Session) importAll(a api.Ask) api.Say {
	objects, e, at := takeIn(a.Data)
	if e != api.OK {
		return api.Say{Err: e, Number: at}
	}
	return sayOutcome(s.engine.Import(objects, a.Number))
}

// takeIn is the objects of a stream that is there whole.
func takeIn(data []byte) ([]api.Object, api.Errno, int) {
	n := NewIntake()
	if e, at := n.Feed(data); e != api.OK {
		return nil, e, at
	}
	return n.Close()
}

func (s *Session) addText(a api.Ask) api.Say {
	out := s.engine.AddText(a.Text, a.Data, a.Labels)
	return sayOutcome(out, out.At)
}

func (s *Session) addTree(a api.Ask) api.Say {
	tree, e, at := ark.Parse(a.Data)
	if e != api.OK {
		return api.Say{Err: e, Number: at}
	}
	out := s.engine.AddTree(a.Text, tree)
	return sayOutcome(out, out.At)
}

func (s *Session) rewrite(a api.Ask) api.Say {
	out := s.engine.Rewrite(a.Labels, a.Number)
	var labels []api.Label
	for _, x := range out.Map {
		labels = append(labels, x.Old, x.New)
	}
	return sayOutcome(out, labels...)
}

func (s *Session) lookup(a api.Ask) api.Say {
	if len(a.Labels) != 1 {
		return api.Say{Err: api.ErrArg}
	}
	l, e := s.engine.Lookup(a.Labels[0])
	if e != api.OK {
		return api.Say{Err: e}
	}
	return api.Say{Labels: printable(l)}
}

func (s *Session) read(a api.Ask) api.Say {
	if len(a.Labels) != 1 {
		return api.Say{Err: api.ErrArg}
	}
	o, e := s.engine.Read(a.Labels[0])
	if e != api.OK {
		return api.Say{Err: e}
	}
	labels := append(printable(o.Label), printable(o.Refs...)...)
	return api.Say{Labels: labels, Text: o.Maker, Data: o.Ark, Number: int(o.Ca)}
}

func (s *Session) verify(a api.Ask) api.Say {
	if len(a.Labels) != 1 {
		return api.Say{Err: api.ErrArg}
	}
	return sayOutcome(s.engine.Verify(a.Labels[0], a.Number))
}

func (s *Session) list(api.Ask) api.Say {
	return api.Say{Labels: s.engine.Shelf().List()}
}

// export sizes the stream up as it gathers its objects: those of a closure may have far more bytes than an answer takes.
func (s *Session) export(a api.Ask) api.Say {
	shelf := s.engine.Shelf()
	labels, e, at := shelf.Closure(a.Labels)
	if e != api.OK {
		return api.Say{Err: e, Number: at}
	}
	objects := make([]api.Object, len(labels))
	size := emptySize
	for i, l := range labels {
		objects[i], _ = shelf.Get(l)
		size += recordSize(bodySize(objects[i]))
		if size > api.MaxWord {
			return api.Say{Err: api.ErrLong}
		}
	}
	stream, e := Export(objects)
	return api.Say{Err: e, Data: stream}
}

func (s *Session) bye(api.Ask) api.Say {
	s.close()
	return api.Say{}
}

// sayOutcome says what a call of the engine came to, with these labels if all is well.
func sayOutcome(out api.Outcome, labels ...api.Label) api.Say {
	if out.Err == api.OK {
		return api.Say{Labels: printable(labels...), Number: out.Place}
	}
	return api.Say{Err: out.Err, Text: sayLabels(out.At, out.Other), Data: sayTexts(out.First, out.Second), Number: out.Place}
}

// sayLabels is the texts of an outcome's two labels.
func sayLabels(at, other api.Label) string {
	one, _ := label.Print(at)
	two, _ := label.Print(other)
	if one == "" && two == "" {
		return ""
	}
	return one + " " + two
}

// sayTexts is the words of a clash's two texts, if there are any and an answer takes them.
func sayTexts(first, second []byte) []byte {
	size := lay.WordSize(len(first)) + lay.WordSize(len(second))
	if len(first) == 0 || size > api.MaxWord {
		return nil
	}
	return lay.Word(lay.Word(make([]byte, 0, size), first), second)
}

// printable is those of some labels that are.
func printable(labels ...api.Label) []api.Label {
	var out []api.Label
	for _, l := range labels {
		if fit.Label(l) {
			out = append(out, l)
		}
	}
	return out
}
