package wire

import (
	"graft/api"
	"graft/label"
	"graft/lay"
)

// message is what requests and answers have in common.
type message struct {
	head   int // a request's Op, an answer's Err
	labels []api.Label
	text   string
	data   []byte
	number int
}

// encode is the bytes of a message that may have these fields.
func (m message) encode(has fields) ([]byte, api.Errno) {
	if e := m.check(has); e != api.OK {
		return nil, e
	}
	out := make([]byte, 0, m.size())
	out = lay.Number(out, m.head)
	out = layLabels(out, m.labels)
	out = lay.Word(out, m.text)
	out = lay.Word(out, m.data)
	return lay.Number(out, m.number), api.OK
}

// check tells why a message can't be laid down.
func (m message) check(has fields) api.Errno {
	if len(m.labels) > api.MaxObjects {
		return api.ErrLong
	}
	for _, l := range m.labels {
		if e, _ := label.Check(l.Name); e != api.OK {
			return e
		}
	}
	if len(m.text) > api.MaxWord || len(m.data) > api.MaxWord {
		return api.ErrLong
	}
	if m.exceeds(has) {
		return api.ErrWire
	}
	return api.OK
}

// exceeds says whether there is something in a field that the message doesn't have.
func (m message) exceeds(has fields) bool {
	return len(m.labels) > 0 && !has.labels || m.text != "" && !has.text || len(m.data) > 0 && !has.data || m.number != 0 && !has.number
}

// size is how many bytes a message has.
func (m message) size() int {
	return 2*lay.NumberSize + labelsSize(m.labels) + lay.WordSize(len(m.text)) + lay.WordSize(len(m.data))
}

// layLabels lays down how many labels there are, and the word of each; they are printable.
func layLabels(out []byte, labels []api.Label) []byte {
	out = lay.Number(out, len(labels))
	for _, l := range labels {
		out = layLabel(out, l)
	}
	return out
}

func layLabel(out []byte, l api.Label) []byte {
	text, _ := label.Print(l)
	return lay.Word(out, text)
}

// labelsSize is how many bytes layLabels lays down.
func labelsSize(labels []api.Label) int {
	size := lay.NumberSize
	for _, l := range labels {
		size += labelSize(l)
	}
	return size
}

// labelSize is how many bytes the word of a label has.
func labelSize(l api.Label) int {
	return lay.WordSize(beforeName + len(l.Name))
}
