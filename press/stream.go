package press

import "graft/api"

// Steps of reading. Each reads one number or one word, so that a fault is known by the very bit that shows it.
const (
	stepHead = iota
	stepStored
	stepBytes
	stepLiterals
	stepDistances
	stepLengths
	stepLength
	stepListed
	stepRepeat
	stepSymbol
	stepMore
	stepFar
	stepFurther
	stepEnd
)

// A stream is one that is being read: all that its next bit's meaning hangs on.
type stream struct {
	bits      bitReader
	step      int
	last      bool // the present block is the last one
	rest      int  // bytes of a stored block that are still to come
	head      dynamicHead
	literals  code
	distances code
	row       row // what the last symbol stands for, while its further bits come
	length    int // of the match whose distance comes
	limit     int
	count     int    // bytes of output
	out       []byte // of these, those of this piece (ahead of them there may be what others put out)
	past      window // and those of the pieces ahead
}

// run reads a piece: up to its end, the stream's end or a fault.
func (s *stream) run(piece []byte) api.Errno {
	s.bits.piece = piece
	for s.step != stepEnd {
		if on, e := s.next(); !on {
			return e
		}
	}
	return api.OK
}

// next does one step; false beside OK says that more must come.
func (s *stream) next() (bool, api.Errno) {
	switch s.step {
	case stepHead:
		return s.readHead()
	case stepStored:
		return s.readStored()
	case stepBytes:
		return s.readBytes()
	case stepSymbol:
		return s.readSymbol()
	case stepMore:
		return s.readMore()
	case stepFar:
		return s.readFar()
	case stepFurther:
		return s.readFurther()
	}
	return s.nextOfHead()
}

func (s *stream) readHead() (bool, api.Errno) {
	v, ok := s.bits.number(3)
	if !ok {
		return false, api.OK
	}
	s.last = v&1 == 1
	switch v >> 1 {
	case kindStored:
		s.bits.skip()
		s.step = stepStored
	case kindFixed:
		s.literals, s.distances = fixedLiterals, fixedDistances
		s.step = stepSymbol
	case kindDynamic:
		s.head = dynamicHead{}
		s.step = stepLiterals
	default:
		return false, api.ErrBlock
	}
	return true, api.OK
}

// readStored reads a stored block's length and its complement as one number: nothing can be wrong ahead of its last bit.
func (s *stream) readStored() (bool, api.Errno) {
	v, ok := s.bits.number(32)
	if !ok {
		return false, api.OK
	}
	n, complement := v&0xffff, v>>16
	if n+complement != 0xffff {
		return false, api.ErrStored
	}
	if n > s.limit-s.count {
		return false, api.ErrRoom
	}
	s.rest = n
	s.step = stepBytes
	return true, api.OK
}

func (s *stream) readBytes() (bool, api.Errno) {
	b := s.bits.bytes(s.rest)
	s.out = append(s.out, b...)
	s.count += len(b)
	s.rest -= len(b)
	if s.rest > 0 {
		return false, api.OK
	}
	s.endBlock()
	return true, api.OK
}

func (s *stream) endBlock() {
	s.step = stepHead
	if s.last {
		s.step = stepEnd
	}
}

func (s *stream) readSymbol() (bool, api.Errno) {
	symbol, ok := s.bits.word(&s.literals)
	switch {
	case !ok:
		return false, api.OK
	case symbol < blockEnd:
		return s.putLiteral(byte(symbol))
	case symbol == blockEnd:
		s.endBlock()
		return true, api.OK
	case symbol >= mostLiterals:
		return false, api.ErrSymbol
	}
	s.row = lengthRows[symbol-firstLength]
	s.step = stepMore
	return true, api.OK
}

func (s *stream) readMore() (bool, api.Errno) {
	more, ok := s.bits.number(int(s.row.bits))
	if !ok {
		return false, api.OK
	}
	s.length = int(s.row.base) + more
	s.step = stepFar
	return true, api.OK
}

func (s *stream) readFar() (bool, api.Errno) {
	symbol, ok := s.bits.word(&s.distances)
	if !ok {
		return false, api.OK
	}
	if symbol >= mostDistances {
		return false, api.ErrSymbol
	}
	s.row = distanceRows[symbol]
	s.step = stepFurther
	return true, api.OK
}

func (s *stream) readFurther() (bool, api.Errno) {
	further, ok := s.bits.number(int(s.row.bits))
	if !ok {
		return false, api.OK
	}
	s.step = stepSymbol
	return s.putMatch(int(s.row.base) + further)
}

func (s *stream) putLiteral(b byte) (bool, api.Errno) {
	if s.count == s.limit {
		return false, api.ErrRoom
	}
	s.out = append(s.out, b)
	s.count++
	return true, api.OK
}

func (s *stream) putMatch(distance int) (bool, api.Errno) {
	if distance > s.count {
		return false, api.ErrFar
	}
	if s.length > s.limit-s.count {
		return false, api.ErrRoom
	}
	s.count += s.length
	for range s.length {
		s.out = append(s.out, s.behind(distance))
	}
	return true, api.OK
}

// settle answers the output of the piece, and lets go of both, but for what a match may still reach.
func (s *stream) settle() []byte {
	out := s.out
	s.out, s.bits.piece = nil, nil
	s.past.keep(out)
	if s.step == stepEnd {
		s.past = window{}
	}
	return out
}

// behind is the byte of output that stands so far ahead of the next one.
func (s *stream) behind(distance int) byte {
	if distance <= len(s.out) {
		return s.out[len(s.out)-distance]
	}
	return s.past.behind(distance - len(s.out))
}

// A window keeps the bytes of output that a match may still reach, in a ring.
type window struct {
	ring []byte
	at   int // where the next byte goes
}

func (w *window) keep(out []byte) {
	if w.ring == nil && len(out) > 0 {
		w.ring = make([]byte, reach)
	}
	for len(out) > 0 {
		n := copy(w.ring[w.at:], out)
		out = out[n:]
		w.at = (w.at + n) % reach
	}
}

func (w *window) behind(distance int) byte {
	return w.ring[(w.at-distance+reach)%reach]
}
