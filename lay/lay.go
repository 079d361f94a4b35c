// Package lay lays numbers, texts and words down as bytes, in the forms that archives, groups' texts, records, entries and messages have.
package lay

// NumberSize is how many bytes a number has; a word takes a multiple of it.
const NumberSize = 8

// HalfSize is how many bytes a number has where four are enough.
const HalfSize = 4

// Number lays down a number behind what is there, the lowest byte first.
func Number(out []byte, n int) []byte {
	for i := range NumberSize {
		out = append(out, byte(n>>(8*i)))
	}
	return out
}

// Half lays down a number in four bytes behind what is there, the lowest byte first.
func Half(out []byte, n uint32) []byte {
	for i := range HalfSize {
		out = append(out, byte(n>>(8*i)))
	}
	return out
}

// Read is the number that at most eight bytes are, the lowest byte first.
func Read(b []byte) uint64 {
	n := uint64(0)
	for i, x := range b {
		n |= uint64(x) << (8 * i)
	}
	return n
}

// Text lays down a text behind what is there: how many bytes it has, as a number of four bytes, and these.
func Text[T string | []byte](out []byte, text T) []byte {
	return append(Half(out, uint32(len(text))), text...)
}

// Word lays down a word behind what is there: how many bytes it has, these, and bytes 0 up to a multiple of eight.
func Word[T string | []byte](out []byte, text T) []byte {
	out = append(Number(out, len(text)), text...)
	for range WordSize(len(text)) - NumberSize - len(text) {
		out = append(out, 0)
	}
	return out
}

// WordSize is how many bytes the word of a text of n bytes has.
func WordSize(n int) int {
	return NumberSize + (n+NumberSize-1)/NumberSize*NumberSize
}
