package press

// bitWriter lays bits behind one another, of each byte the lowest first.
type bitWriter struct {
	out  []byte // the whole bytes
	held uint64 // the bits behind them
	got  int    // how many these are: less than 8
}

// bits is how many bits were written.
func (w *bitWriter) bits() int { return 8*len(w.out) + w.got }

// number writes a number of n bits, 32 at most, the lowest first.
func (w *bitWriter) number(v, n int) {
	w.held |= uint64(v) << w.got
	w.got += n
	for w.got >= 8 {
		w.out = append(w.out, byte(w.held))
		w.held >>= 8
		w.got -= 8
	}
}

func (w *bitWriter) word(b *book, symbol int) {
	w.number(int(b.words[symbol]), int(b.lengths[symbol]))
}

// skip fills the byte that was begun with bits 0.
func (w *bitWriter) skip() {
	if w.got > 0 {
		w.number(0, 8-w.got)
	}
}
