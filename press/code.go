package press

import "math/bits"

// The fixed codes are the same in every stream, so they are laid down once.
var (
	fixedLiterals  = layFixedLiterals()
	fixedDistances = layFixedDistances()
)

// nothing is the symbol that is read where no word begins with the bits that came: no row stands for it.
const nothing = literalSymbols

// wholeCode is the fill of a code by one of whose words every row of bits begins.
const wholeCode = 1 << greatestLength

// A code has its symbols in the order of their words, so that a word's number is all that is needed to find its symbol.
type code struct {
	symbols [literalSymbols]uint16
	ends    [greatestLength + 1]uint16 // of each length, the number behind its last word
	upTo    [greatestLength + 1]uint16 // how many symbols have words of at most that length
	longest int
}

// layCode makes the code of the lengths; it must not be over.
func layCode(lengths []uint8) code {
	var counts, places [greatestLength + 1]uint16
	for _, n := range lengths {
		counts[n]++
	}
	var c code
	for n := 1; n <= greatestLength; n++ {
		places[n] = c.upTo[n-1]
		c.upTo[n] = c.upTo[n-1] + counts[n]
		c.ends[n] = 2*c.ends[n-1] + counts[n]
		if counts[n] > 0 {
			c.longest = n
		}
	}
	for symbol, n := range lengths {
		if n > 0 {
			c.symbols[places[n]] = uint16(symbol)
			places[n]++
		}
	}
	return c
}

func layFixedLiterals() code {
	var lengths [literalSymbols]uint8
	for symbol := range lengths {
		switch {
		case symbol < 144:
			lengths[symbol] = 8
		case symbol < 256:
			lengths[symbol] = 9
		case symbol < 280:
			lengths[symbol] = 7
		default:
			lengths[symbol] = 8
		}
	}
	return layCode(lengths[:])
}

func layFixedDistances() code {
	var lengths [distanceSymbols]uint8
	for symbol := range lengths {
		lengths[symbol] = 5
	}
	return layCode(lengths[:])
}

// fillOf is how much of all rows of bits begins with words of such lengths: above wholeCode, some would have to begin with two.
func fillOf(lengths []uint8) int {
	fill := 0
	for _, n := range lengths {
		if n > 0 {
			fill += 1 << (greatestLength - n)
		}
	}
	return fill
}

// A book is a code as one looks it up for writing: by symbol.
type book struct {
	lengths [literalSymbols]uint8
	words   [literalSymbols]uint16 // each turned round, since a word's highest bit comes first and a number's lowest
}

func (c code) book() book {
	var b book
	for n := 1; n <= greatestLength; n++ {
		for place := c.upTo[n-1]; place < c.upTo[n]; place++ {
			word := c.ends[n] - (c.upTo[n] - place)
			b.lengths[c.symbols[place]] = uint8(n)
			b.words[c.symbols[place]] = bits.Reverse16(word) >> (16 - n)
		}
	}
	return b
}
