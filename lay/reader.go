package lay

// Reader takes what is laid down off the front of bytes. Once it has met what may not be it is broken: nothing is left
// to be taken, and it answers zero values.
type Reader struct {
	rest   []byte
	broken bool
}

// NewReader is one of these bytes; the texts that it answers are parts of them.
func NewReader(b []byte) Reader {
	return Reader{rest: b}
}

// Left is how many bytes have not been taken yet.
func (r *Reader) Left() int {
	return len(r.rest)
}

// Broken says whether it has met what may not be.
func (r *Reader) Broken() bool {
	return r.broken
}

// Break is for what the one who asks finds that it may not be.
func (r *Reader) Break() {
	*r = Reader{broken: true}
}

// Octet takes a byte off.
func (r *Reader) Octet() byte {
	return byte(Read(r.take(1)))
}

// Half takes a number of four bytes off.
func (r *Reader) Half() int {
	return int(Read(r.take(HalfSize)))
}

// Text takes a text off.
func (r *Reader) Text() []byte {
	return r.take(r.Half())
}

// take takes so many bytes off.
func (r *Reader) take(n int) []byte {
	if n > len(r.rest) {
		r.Break()
		return nil
	}
	out := r.rest[:n]
	r.rest = r.rest[n:]
	return out
}
