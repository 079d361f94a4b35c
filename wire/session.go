package wire

import (
	"bytes"

	"graft/api"
	"graft/engine"
)

// What a client's first request says, and what is answered to it.
const (
	version  = 1
	greeting = "graft-wire-1"
)

// Session is a client's, on an engine.
type Session struct {
	engine  *engine.Engine
	open    bool
	greeted bool
	held    []byte  // what came and wasn't taken yet
	reading reading // the request with which that begins
}

// NewSession is one that has said and heard nothing.
func NewSession(e *engine.Engine) *Session {
	return &Session{engine: e, open: true, reading: reading{request: true}}
}

// Open tells whether it goes on.
func (s *Session) Open() bool {
	return s != nil && s.open
}

// Feed takes bytes, and gives the bytes that answer them.
func (s *Session) Feed(p []byte) []byte {
	if !s.Open() {
		return nil
	}
	s.held = append(s.held, p...)
	var out []byte
	for taken := 0; s.open; {
		n, say := s.take(s.held[taken:])
		if n < 0 {
			s.keepFrom(taken)
			break
		}
		taken += n
		data, _ := EncodeSay(say) // no answer has more than it takes
		out = append(out, data...)
	}
	return out
}

// take takes the request with which data begins: how many bytes it has, and what is answered to it; or -1, if more of it must come.
func (s *Session) take(data []byte) (int, api.Say) {
	e, at := s.reading.read(data)
	switch e {
	case api.OK:
		a := s.reading.ask(data)
		s.reading = reading{request: true}
		return at, s.answer(a)
	case api.ErrShort:
		return -1, api.Say{}
	}
	s.close()
	return 0, api.Say{Err: e, Number: at}
}

// keepFrom drops the bytes that were taken, so many of them. What is left is then no more than the last Feed brought.
func (s *Session) keepFrom(taken int) {
	if taken > 0 {
		s.held = bytes.Clone(s.held[taken:])
	}
}

// close ends the session: nothing is kept for what may still come.
func (s *Session) close() {
	*s = Session{}
}

// answer does what a request asks for.
func (s *Session) answer(a api.Ask) api.Say {
	if !s.greeted {
		return s.greet(a)
	}
	return s.requests()[a.Op](a)
}

// greet answers the first request.
func (s *Session) greet(a api.Ask) api.Say {
	if a.Op != api.OpHello || a.Number != version {
		s.close()
		return api.Say{Err: api.ErrVoid}
	}
	s.greeted = true
	return api.Say{Text: greeting, Number: version}
}
