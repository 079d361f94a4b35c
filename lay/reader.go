package lay

// Reader takes what is laid down off the front of bytes. Once it has met what may not be it is broken: nothing is left
// to be taken, and it answers zero values.
type Reader struct {
	rest   []byte
	broken bool
}

// NewReader is one of these bytes; the texts that it answers are parts of them.
func NewReader(b []byte) Reader {
	return Reader{rest: b}
}

// Left is how many bytes have not been taken yet.
func (r *Reader) Left() int {
	return len(r.rest)
}

// Broken says whether it has met what may not be.
func (r *Reader) Broken() bool {
	return r.broken
}

// Break is for what the one who asks finds that it may not be.
func (r *Reader) Break() {
	*r = Reader{broken: true}
}

// Octet takes a byte off.
func (r *Reader) Octet() byte {
	return byte(Read(r.take(1)))
}

// Half takes a number of four bytes off.
func (r *Reader) Half() int {
	return int(Read(r.take(HalfSize)))
}

// Number takes a number off.
func (r *Reader) Number() int {
	return int(Read(r.take(NumberSize)))
}

// Text takes a text off.
func (r *Reader) Text() []byte {
	return r.take(r.Half())
}

// Word takes a word off.
func (r *Reader) Word() []byte {
	text := r.take(r.Number())
	for _, x := range r.take(WordSize(len(text)) - NumberSize - len(text)) {
		if x != 0 {
			r.Break()
		}
	}
	if r.broken {
		return nil
	}
	return text
}

// take takes so many bytes off; a number that was laid down may be below 0.
func (r *Reader) take(n int) []byte {
	if n < 0 || n > len(r.rest) {
		r.Break()
		return nil
	}
	out := r.rest[:n]
	r.rest = r.rest[n:]
	return out
}
