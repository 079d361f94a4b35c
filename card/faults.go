package card

import (
	"errors"
	"strconv"

	"graft/api"
)

// What may be wrong.
var (
	errLong  = errors.New("it has more bytes than a card may have")
	errShort = errors.New("it ends too early")
	errTail  = errors.New("something stands behind its end")
	errLine  = errors.New("no line that may come here begins so")
	errField = errors.New("a field may not be so")
	errMark  = errors.New("a mark may not be so")
)

// fault is what is wrong, and where.
type fault struct {
	what  error
	field int // the number of the field that is wrong; 0: none is
	at    int // how far behind the beginning of its line that shows
}

func (f fault) Error() string {
	return f.what.Error() + " (field " + strconv.Itoa(f.field) + ", byte " + strconv.Itoa(f.at) + ")"
}

func (f fault) Unwrap() error { return f.what }

// wrong is the fault of a field that may not be as it is.
func wrong(field int) fault {
	what := errField
	if field == fieldMarks {
		what = errMark
	}
	return fault{what, field, len(heads[field])}
}

// inLine wraps what was met in a line, so that the reading of a line need not know where in the text it stands.
type inLine struct {
	begin int
	err   error
}

func (l inLine) Error() string {
	return "in the line at " + strconv.Itoa(l.begin) + ": " + l.err.Error()
}

func (l inLine) Unwrap() error { return l.err }

// errnoOf is the number of what is wrong.
func errnoOf(err error) api.Errno {
	switch {
	case errors.Is(err, errLong):
		return api.ErrLong
	case errors.Is(err, errShort):
		return api.ErrShort
	case errors.Is(err, errTail):
		return api.ErrTail
	case errors.Is(err, errLine):
		return api.ErrLine
	case errors.Is(err, errMark):
		return api.ErrMark
	}
	return api.ErrField
}

// fieldOf is the number of the field that is wrong.
func fieldOf(err error) int {
	var f fault
	if errors.As(err, &f) {
		return f.field
	}
	return 0
}

// placeOf is where in a text it is wrong.
func placeOf(err error) int {
	var (
		f    fault
		line inLine
	)
	if errors.As(err, &f) && errors.As(err, &line) {
		return line.begin + f.at
	}
	return 0
}
