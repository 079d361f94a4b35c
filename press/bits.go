package press

// bitReader reads numbers and words out of a stream that comes in pieces. What has come of a number or a word when a piece ends is kept.
type bitReader struct {
	piece []byte // what no bit was read of
	begun int    // how many bytes of the stream some bit was read of
	now   uint32 // the bits of the byte begun last that were not read
	left  int    // how many these are
	held  uint32 // what has come of the number or word under way
	got   int    // how many bits these are
}

// begin goes on to the next byte, if it has come. It is asked only where a bit is about to be read, so the last bit that was read always lies in the byte begun last.
func (b *bitReader) begin() bool {
	if len(b.piece) == 0 {
		return false
	}
	b.now, b.left = uint32(b.piece[0]), 8
	b.piece = b.piece[1:]
	b.begun++
	return true
}

// place is the number of the byte in which the last bit lies that was read.
func (b *bitReader) place() int { return b.begun - 1 }

// skip passes over the bits up to the next whole byte.
func (b *bitReader) skip() { b.now, b.left = 0, 0 }

// number reads a number of n bits, the lowest first; false if not all of them have come.
func (b *bitReader) number(n int) (int, bool) {
	for b.got < n {
		if b.left == 0 && !b.begin() {
			return 0, false
		}
		take := min(n-b.got, b.left)
		b.held |= (b.now & (1<<take - 1)) << b.got
		b.now >>= take
		b.left -= take
		b.got += take
	}
	v := b.held
	b.held, b.got = 0, 0
	return int(v), true
}

// word reads a word of a code, the highest bit first, and answers its symbol; false if not all of it has come.
// Words end in the midst of bytes: so the loop over a word's bits is entered in the midst of a byte, and left there.
func (b *bitReader) word(c *code) (int, bool) {
	held, got := b.held, b.got
next:
	if b.left > 0 {
		goto bit
	}
	if !b.begin() {
		b.held, b.got = held, got
		return 0, false
	}
bit:
	held = held<<1 | b.now&1
	b.now >>= 1
	b.left--
	got++
	if held < uint32(c.ends[got]) {
		goto whole
	}
	if got < c.longest {
		goto next
	}
	b.held, b.got = 0, 0
	return nothing, true
whole:
	b.held, b.got = 0, 0
	return int(c.symbols[uint32(c.upTo[got])-(uint32(c.ends[got])-held)]), true
}

// bytes takes what has come of the next n bytes; the reader must stand between two.
func (b *bitReader) bytes(n int) []byte {
	n = min(n, len(b.piece))
	out := b.piece[:n:n]
	b.piece = b.piece[n:]
	b.begun += n
	return out
}
