package press

import "graft/api"

// A dynamicHead is what has come of a dynamic block's two codes.
type dynamicHead struct {
	literals  int // how many literal lengths there are
	distances int // how many distance lengths stand behind them
	lengths   int // how many lengths of the length code are told
	short     [lengthSymbols]uint8
	shorts    int // how many of these have come
	code      code
	list      [mostLiterals + mostDistances]uint8
	listed    int   // how many of these have come
	again     uint8 // the length that is repeated, while the further bits of the repeat come
}

func (s *stream) nextOfHead() (bool, api.Errno) {
	switch s.step {
	case stepLiterals:
		return s.readLiterals()
	case stepDistances:
		return s.readDistances()
	case stepLengths:
		return s.readLengths()
	case stepLength:
		return s.readLength()
	case stepListed:
		return s.readListed()
	}
	return s.readRepeat()
}

func (s *stream) readLiterals() (bool, api.Errno) {
	v, ok := s.bits.number(5)
	if !ok {
		return false, api.OK
	}
	s.head.literals = minLiterals + v
	s.step = stepDistances
	return orCode(s.head.literals <= mostLiterals)
}

func (s *stream) readDistances() (bool, api.Errno) {
	v, ok := s.bits.number(5)
	if !ok {
		return false, api.OK
	}
	s.head.distances = minDistances + v
	s.step = stepLengths
	return orCode(s.head.distances <= mostDistances)
}

func (s *stream) readLengths() (bool, api.Errno) {
	v, ok := s.bits.number(4)
	if !ok {
		return false, api.OK
	}
	s.head.lengths = minLengths + v
	s.step = stepLength
	return true, api.OK
}

func (s *stream) readLength() (bool, api.Errno) {
	v, ok := s.bits.number(3)
	if !ok {
		return false, api.OK
	}
	h := &s.head
	h.short[lengthOrder[h.shorts]] = uint8(v)
	h.shorts++
	if h.shorts < h.lengths {
		return true, api.OK
	}
	if fillOf(h.short[:]) != wholeCode {
		return false, api.ErrCode
	}
	h.code = layCode(h.short[:])
	s.step = stepListed
	return true, api.OK
}

func (s *stream) readListed() (bool, api.Errno) {
	symbol, ok := s.bits.word(&s.head.code)
	if !ok {
		return false, api.OK
	}
	h := &s.head
	switch {
	case symbol < repeatLast:
		return s.list(uint8(symbol), 1)
	case symbol == repeatLast && h.listed == 0:
		return false, api.ErrCode
	case symbol == repeatLast:
		h.again = h.list[h.listed-1]
	default:
		h.again = 0
	}
	s.row = repeatRows[symbol-repeatLast]
	s.step = stepRepeat
	return true, api.OK
}

func (s *stream) readRepeat() (bool, api.Errno) {
	more, ok := s.bits.number(int(s.row.bits))
	if !ok {
		return false, api.OK
	}
	s.step = stepListed
	return s.list(s.head.again, int(s.row.base)+more)
}

// list puts a length so many times behind those that have come.
func (s *stream) list(length uint8, times int) (bool, api.Errno) {
	h := &s.head
	all := h.literals + h.distances
	if times > all-h.listed {
		return false, api.ErrCode
	}
	for range times {
		h.list[h.listed] = length
		h.listed++
	}
	if h.listed < all {
		return true, api.OK
	}
	return s.layCodes()
}

func (s *stream) layCodes() (bool, api.Errno) {
	h := &s.head
	literals, distances := h.list[:h.literals], h.list[h.literals:h.listed]
	if literals[blockEnd] == 0 || fillOf(literals) != wholeCode || !isDistanceCode(distances) {
		return false, api.ErrCode
	}
	s.literals, s.distances = layCode(literals), layCode(distances)
	s.step = stepSymbol
	return true, api.OK
}

// isDistanceCode says whether the lengths make a whole code, or one of those that may be part: of no word, or of one that has one bit.
func isDistanceCode(lengths []uint8) bool {
	words, bits := 0, 0
	for _, n := range lengths {
		if n > 0 {
			words++
		}
		bits += int(n)
	}
	return fillOf(lengths) == wholeCode || words == bits && words <= 1
}

// orCode goes on, or tells that the codes can't be.
func orCode(good bool) (bool, api.Errno) {
	if !good {
		return false, api.ErrCode
	}
	return true, api.OK
}
