// Package press makes bytes smaller and brings them back: DEFLATE and gzip, both ways, in pieces: see the chapter 04-press of the document.
package press

import "graft/api"

// pieceSize is how many bytes make one block.
const pieceSize = 32768

// Deflate packs bytes; of more than api.MaxArk it makes none.
func Deflate(data []byte) []byte {
	if len(data) > api.MaxArk {
		return nil
	}
	var w bitWriter
	w.deflate(data)
	w.skip()
	return w.out
}

// deflate writes the stream of the data; it ends wherever the last block does, be it in the midst of a byte.
func (w *bitWriter) deflate(data []byte) {
	f := newFinder(data)
	var tokens []token
	for start, last := 0, false; !last; start += pieceSize {
		end := min(start+pieceSize, len(data))
		last = end == len(data)
		tokens = f.tokens(tokens[:0], start, end)
		w.block(data[start:end], tokens, last)
	}
}

// block writes a piece in that of the three forms which has the fewest bits; of equals it takes the first.
func (w *bitWriter) block(piece []byte, tokens []token, last bool) {
	t := countTokens(tokens)
	fixed := books{fixedLiterals.book(), fixedDistances.book()}
	dynamic := planDynamic(&t)
	storedBits := w.storedBits(len(piece))
	fixedBits := 3 + t.bits(&fixed)
	dynamicBits := 3 + dynamic.bits() + t.bits(&dynamic.books)
	switch {
	case storedBits <= fixedBits && storedBits <= dynamicBits:
		w.head(kindStored, last)
		w.stored(piece)
	case fixedBits <= dynamicBits:
		w.head(kindFixed, last)
		w.tokens(tokens, &fixed)
	default:
		w.head(kindDynamic, last)
		w.plan(&dynamic)
		w.tokens(tokens, &dynamic.books)
	}
}

func (w *bitWriter) head(kind int, last bool) {
	if last {
		w.number(1, 1)
	} else {
		w.number(0, 1)
	}
	w.number(kind, 2)
}

// storedBits is how many bits a stored block of n bytes would have here.
func (w *bitWriter) storedBits(n int) int {
	padding := -(w.bits() + 3) & 7
	return 3 + padding + 32 + 8*n
}

func (w *bitWriter) stored(piece []byte) {
	w.skip()
	w.number(len(piece), 16)
	w.number(0xffff-len(piece), 16)
	w.out = append(w.out, piece...)
}

// books are the two codes of a block.
type books struct {
	literals  book
	distances book
}

func (w *bitWriter) tokens(tokens []token, b *books) {
	for _, t := range tokens {
		w.word(&b.literals, int(t.symbol))
		if t.symbol < firstLength {
			continue
		}
		w.number(int(t.more), int(lengthRows[t.symbol-firstLength].bits))
		w.word(&b.distances, int(t.far))
		w.number(int(t.further), int(distanceRows[t.far].bits))
	}
	w.word(&b.literals, blockEnd)
}

// A tally is how often each symbol comes in a piece.
type tally struct {
	literals  [mostLiterals]int
	distances [mostDistances]int
}

func countTokens(tokens []token) tally {
	var t tally
	for _, x := range tokens {
		t.literals[x.symbol]++
		if x.symbol >= firstLength {
			t.distances[x.far]++
		}
	}
	t.literals[blockEnd]++
	return t
}

// bits is how many bits all words with their further bits have by such codes.
func (t *tally) bits(b *books) int {
	sum := 0
	for symbol, n := range t.literals {
		sum += n * int(b.literals.lengths[symbol])
		if symbol >= firstLength {
			sum += n * int(lengthRows[symbol-firstLength].bits)
		}
	}
	for symbol, n := range t.distances {
		sum += n * int(b.distances.lengths[symbol]+distanceRows[symbol].bits)
	}
	return sum
}
