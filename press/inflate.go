package press

import "graft/api"

// Inflate unpacks the one stream that data is, into at most limit bytes.
func Inflate(data []byte, limit int) ([]byte, api.Errno, int) {
	if e := checkInput(data, limit); e != api.OK {
		return nil, e, 0
	}
	s := stream{limit: limit}
	if e := s.run(data); e != api.OK {
		return nil, e, s.bits.place()
	}
	if s.step != stepEnd {
		return nil, api.ErrShort, len(data)
	}
	if len(s.bits.piece) > 0 {
		return nil, api.ErrTail, s.bits.begun
	}
	return s.out, api.OK, 0
}

func checkInput(data []byte, limit int) api.Errno {
	if len(data) > api.MaxPress {
		return api.ErrLong
	}
	return checkLimit(limit)
}

func checkLimit(limit int) api.Errno {
	if limit < 0 || limit > api.MaxPress {
		return api.ErrArg
	}
	return api.OK
}

// Inflater unpacks a stream that comes in pieces.
type Inflater struct {
	stream stream
	came   int  // bytes in all
	done   bool // closed, or failed
}

// NewInflater is an inflater that gives at most limit bytes.
func NewInflater(limit int) (*Inflater, api.Errno) {
	if e := checkLimit(limit); e != api.OK {
		return nil, e
	}
	return &Inflater{stream: stream{limit: limit}}, api.OK
}

// Feed takes a piece, and gives the bytes of output that are decided by it.
func (f *Inflater) Feed(p []byte) ([]byte, api.Errno, int) {
	if f == nil {
		return nil, api.OK, 0
	}
	if f.done {
		return nil, api.ErrDone, 0
	}
	if len(p) > api.MaxPress-f.came {
		return f.fail(api.ErrLong, 0)
	}
	f.came += len(p)
	s := &f.stream
	if e := s.run(p); e != api.OK {
		return f.fail(e, s.bits.place())
	}
	if len(s.bits.piece) > 0 {
		return f.fail(api.ErrTail, s.bits.begun)
	}
	return s.settle(), api.OK, 0
}

// Close tells whether all has come.
func (f *Inflater) Close() (api.Errno, int) {
	if f == nil {
		return api.OK, 0
	}
	if f.done {
		return api.ErrDone, 0
	}
	ended, came := f.stream.step == stepEnd, f.came
	f.finish()
	if !ended {
		return api.ErrShort, came
	}
	return api.OK, 0
}

func (f *Inflater) fail(e api.Errno, at int) ([]byte, api.Errno, int) {
	f.finish()
	return nil, e, at
}

// finish lets go of all that only a further piece would need.
func (f *Inflater) finish() { *f = Inflater{done: true} }
