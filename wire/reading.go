package wire

import (
	"graft/api"
	"graft/label"
	"graft/lay"
)

// How many bytes of a label's text stand ahead of its name, and how many it has at most.
const (
	beforeName = len(api.Store) + api.Digits + 1
	maxLabel   = beforeName + api.MaxName
)

// stage is what comes next in a message.
type stage int

const (
	stageHead stage = iota
	stageCount
	stageLabels
	stageText
	stageData
	stageNumber
	stageEnd
)

// span is where the bytes of a word stand in a message.
type span struct {
	from, to int
}

// reading is a message that is read as far as it is there. When more of it has come it goes on where it stopped, so that
// a message that comes byte by byte is not read anew with each.
type reading struct {
	request bool   // its head says which fields it has
	has     fields // known ahead for an answer
	stage   stage
	at      int // where that stage begins, or its next label
	left    int // labels that are still to come
	head    int
	labels  []api.Label
	text    span
	data    span
	number  int
}

// read goes on, data being all that is there from the message's first byte on: OK and how many bytes the message has; or
// what is wrong, and where. ErrShort says that all is well so far.
func (r *reading) read(data []byte) (api.Errno, int) {
	for r.stage < stageEnd {
		if e, at := r.step(data); e != api.OK {
			return e, at
		}
		r.stage++
	}
	return api.OK, r.at
}

func (r *reading) step(data []byte) (api.Errno, int) {
	switch r.stage {
	case stageHead:
		return r.readHead(data)
	case stageCount:
		return r.readCount(data)
	case stageLabels:
		return r.readLabels(data)
	case stageText:
		return r.readField(data, r.has.text, &r.text)
	case stageData:
		return r.readField(data, r.has.data, &r.data)
	}
	return r.readNumber(data)
}

func (r *reading) readHead(data []byte) (api.Errno, int) {
	n, e := r.numberHere(data)
	if e != api.OK {
		return e, len(data)
	}
	if r.request {
		has, known := fieldsOf(n)
		if !known {
			return api.ErrVoid, r.at
		}
		r.has = has
	}
	r.head = n
	r.at += lay.NumberSize
	return api.OK, 0
}

func (r *reading) readCount(data []byte) (api.Errno, int) {
	n, e := r.numberHere(data)
	if e != api.OK {
		return e, len(data)
	}
	if e := checkLength(n, api.MaxObjects, r.has.labels); e != api.OK {
		return e, r.at
	}
	r.left = n
	r.at += lay.NumberSize
	return api.OK, 0
}

func (r *reading) readLabels(data []byte) (api.Errno, int) {
	for ; r.left > 0; r.left-- {
		word, e, at := r.wordHere(data, maxLabel, true)
		if e != api.OK {
			return e, at
		}
		l, e, _ := label.Parse(string(data[word.from:word.to]))
		if e != api.OK {
			return api.ErrWire, r.at
		}
		if e, at := r.pass(data, word); e != api.OK {
			return e, at
		}
		r.labels = append(r.labels, l)
	}
	return api.OK, 0
}

// readField reads the word of Text or of Data.
func (r *reading) readField(data []byte, has bool, field *span) (api.Errno, int) {
	word, e, at := r.wordHere(data, api.MaxWord, has)
	if e != api.OK {
		return e, at
	}
	*field = word
	return r.pass(data, word)
}

func (r *reading) readNumber(data []byte) (api.Errno, int) {
	n, e := r.numberHere(data)
	if e != api.OK {
		return e, len(data)
	}
	if n != 0 && !r.has.number {
		return api.ErrWire, r.at
	}
	r.number = n
	r.at += lay.NumberSize
	return api.OK, 0
}

// numberHere is the number that comes; ErrShort if it isn't there whole.
func (r *reading) numberHere(data []byte) (int, api.Errno) {
	if len(data) < r.at+lay.NumberSize {
		return 0, api.ErrShort
	}
	return int(lay.Read(data[r.at : r.at+lay.NumberSize])), api.OK
}

// wordHere is where the bytes of the word that comes stand, of which there may be so many, or none where the message
// doesn't have it; what is behind them isn't looked at.
func (r *reading) wordHere(data []byte, most int, has bool) (span, api.Errno, int) {
	n, e := r.numberHere(data)
	if e != api.OK {
		return span{}, e, len(data)
	}
	if e := checkLength(n, most, has); e != api.OK {
		return span{}, e, r.at
	}
	from := r.at + lay.NumberSize
	if len(data) < from+n {
		return span{}, api.ErrShort, len(data)
	}
	return span{from, from + n}, api.OK, 0
}

// checkLength tells what is wrong with how many there are to be of something.
func checkLength(n, most int, has bool) api.Errno {
	switch {
	case n < 0 || n > most:
		return api.ErrLong
	case n != 0 && !has:
		return api.ErrWire
	}
	return api.OK
}

// pass goes on behind a word, when all of its padding is there.
func (r *reading) pass(data []byte, word span) (api.Errno, int) {
	end := r.at + lay.WordSize(word.to-word.from)
	for i := word.to; i < end; i++ {
		if i == len(data) {
			return api.ErrShort, i
		}
		if data[i] != 0 {
			return api.ErrPadding, i
		}
	}
	r.at = end
	return api.OK, 0
}

// message is what was read, when all of it has been; its data is a part of the bytes that were handed in.
func (r *reading) message(data []byte) message {
	return message{r.head, r.labels, string(data[r.text.from:r.text.to]), data[r.data.from:r.data.to], r.number}
}

// ask is likewise the request.
func (r *reading) ask(data []byte) api.Ask {
	m := r.message(data)
	return api.Ask{Op: m.head, Labels: m.labels, Text: m.text, Data: m.data, Number: m.number}
}
