package wire

import (
	"graft/api"
	"graft/lay"
	"graft/press"
)

// part is what comes next in a stream.
type part int

const (
	partMagic part = iota
	partHead       // a record's first bytes, and their sum
	partBody       // its body, and its sum
	partTail       // what may not be: a byte behind the end
)

// Intake takes a stream of objects piece by piece.
type Intake struct {
	part    part
	held    []byte // what has come of that part
	at      int    // where the part begins
	record  int    // where the record begins in which it is
	kind    byte   // what the record's head says
	size    int
	objects []api.Object
	done    bool
}

// NewIntake is one that has taken nothing.
func NewIntake() *Intake {
	return &Intake{}
}

// Feed takes a piece.
func (n *Intake) Feed(p []byte) (api.Errno, int) {
	switch {
	case n == nil:
		return api.OK, 0
	case n.done:
		return api.ErrDone, 0
	}
	for len(p) > 0 {
		var whole []byte
		whole, p = n.gather(p)
		if whole == nil {
			break
		}
		if e, at := n.take(whole); e != api.OK {
			*n = Intake{done: true}
			return e, at
		}
		n.at += len(whole)
	}
	return api.OK, 0
}

// Close is the objects, when all has been taken.
func (n *Intake) Close() ([]api.Object, api.Errno, int) {
	switch {
	case n == nil:
		return nil, api.OK, 0
	case n.done:
		return nil, api.ErrDone, 0
	}
	was := *n
	*n = Intake{done: true}
	if was.part != partTail {
		return nil, api.ErrShort, was.at + len(was.held)
	}
	return was.objects, api.OK, 0
}

// gather is the next part, if all of it is there, and what is behind it. Where p has the whole of it, it is handed on as it lies there.
func (n *Intake) gather(p []byte) (whole, rest []byte) {
	more := n.needs() - len(n.held)
	if len(p) < more {
		n.held = append(n.held, p...)
		return nil, nil
	}
	whole, rest = p[:more], p[more:]
	if len(n.held) > 0 {
		whole = append(n.held, whole...)
		n.held = nil
	}
	return whole, rest
}

// needs is how many bytes the next part has, one at the least: the magic, and what stands behind the end, are looked at byte by byte.
func (n *Intake) needs() int {
	switch n.part {
	case partHead:
		return headSize
	case partBody:
		return n.size + sumSize
	}
	return 1
}

// take takes a part; or tells what is wrong, and where.
func (n *Intake) take(whole []byte) (api.Errno, int) {
	switch n.part {
	case partMagic:
		return n.takeMagic(whole[0])
	case partHead:
		return n.takeHead(whole)
	case partBody:
		return n.takeBody(whole)
	}
	return api.ErrTail, n.at
}

func (n *Intake) takeMagic(b byte) (api.Errno, int) {
	if b != magic[n.at] {
		return api.ErrMagic, n.at
	}
	if n.at == len(magic)-1 {
		n.part = partHead
	}
	return api.OK, 0
}

func (n *Intake) takeHead(whole []byte) (api.Errno, int) {
	front, proved := split(whole)
	if !proved {
		return api.ErrSum, n.at
	}
	n.record, n.kind, n.size = n.at, front[0], int(lay.Read(front[1:]))
	if !n.mayCome() {
		return api.ErrRecord, n.at
	}
	n.part = partBody
	return api.OK, 0
}

// mayCome says whether there may be such a record as the head says here.
func (n *Intake) mayCome() bool {
	switch n.kind {
	case kindObject:
		return n.size >= 0 && n.size <= maxBody && len(n.objects) < api.MaxObjects
	case kindEnd:
		return n.size == endSize
	}
	return false
}

func (n *Intake) takeBody(whole []byte) (api.Errno, int) {
	body, proved := split(whole)
	if !proved {
		return api.ErrSum, n.at + len(body)
	}
	if n.kind == kindEnd {
		return n.takeEnd(body)
	}
	o, right := readBody(body)
	if !right {
		return api.ErrObject, n.record
	}
	n.objects = append(n.objects, o)
	n.part = partHead
	return api.OK, 0
}

func (n *Intake) takeEnd(body []byte) (api.Errno, int) {
	if int(lay.Read(body)) != len(n.objects) {
		return api.ErrObject, n.record
	}
	n.part = partTail
	return api.OK, 0
}

// split is what stands ahead of the sum at the end of some bytes, and whether that is its sum.
func split(whole []byte) ([]byte, bool) {
	at := len(whole) - sumSize
	return whole[:at], uint32(lay.Read(whole[at:])) == press.Crc(whole[:at])
}
