package press

import "math/bits"

// A token is a literal or a match, told by symbols and further bits.
type token struct {
	symbol  uint16 // of the literal code
	more    uint16 // the further bits of a length
	far     uint16 // of the distance code
	further uint16 // the further bits of a distance
}

func literalToken(b byte) token { return token{symbol: uint16(b)} }

func matchToken(length, distance int) token {
	k := len(lengthRows) - 1
	for int(lengthRows[k].base) > length {
		k--
	}
	d := len(distanceRows) - 1
	for int(distanceRows[d].base) > distance {
		d--
	}
	return token{
		symbol:  uint16(firstLength + k),
		more:    uint16(length) - lengthRows[k].base,
		far:     uint16(d),
		further: uint16(distance) - distanceRows[d].base,
	}
}

// longMatch is from how many bytes on matches are looked for among fewer places; so many make one hash.
const longMatch = 8

// A finder finds matches.
type finder struct {
	data  []byte
	long  chain // for matches of longMatch bytes and more, which are nearly always few
	short chain // for those of leastMatch and more
}

func newFinder(data []byte) *finder {
	return &finder{data, newChain(len(data), longMatch), newChain(len(data), leastMatch)}
}

// tokens appends the tokens of the piece from start to end.
func (f *finder) tokens(out []token, start, end int) []token {
	for i := start; i < end; {
		length, distance := f.best(i, min(mostMatch, end-i))
		if length < leastMatch {
			length = 1
			out = append(out, literalToken(f.data[i]))
		} else {
			out = append(out, matchToken(length, distance))
		}
		for range length {
			f.long.pass(f.data, i)
			f.short.pass(f.data, i)
			i++
		}
	}
	return out
}

// best is the longest match of at most so many bytes at a place, of equally long ones the nearest; 0 bytes if there is none.
func (f *finder) best(i, most int) (length, distance int) {
	length, distance = f.long.best(f.data, i, most)
	if length == 0 {
		return f.short.best(f.data, i, min(most, longMatch-1))
	}
	return length, distance
}

// A chain links the places whose first bytes, as many as its width, have the same hash, each to the one ahead of it: a match of that width needs a look at these alone. Places are kept with one added, so that 0 is none.
type chain struct {
	width int
	shift int
	heads []int32 // of each hash, the last place
	links []int32 // of each place, the one ahead of it; a place's room is taken anew once no match can reach it
}

func newChain(size, width int) chain {
	log := bits.Len(uint(min(size, reach-1)))
	return chain{width, 64 - log, make([]int32, 1<<log), make([]int32, 1<<log)}
}

func (c *chain) hash(b []byte) uint64 {
	v := uint64(0)
	for _, x := range b[:c.width] {
		v = v<<8 | uint64(x)
	}
	return v * 0x9e3779b97f4a7c15 >> c.shift
}

// pass makes a place one to which later matches may reach back.
func (c *chain) pass(data []byte, i int) {
	if len(data)-i < c.width {
		return
	}
	h := c.hash(data[i:])
	c.links[i%len(c.links)] = c.heads[h]
	c.heads[h] = int32(i + 1)
}

// best is the longest match of the chain's width and more, and of at most so many bytes; the nearest is met first.
func (c *chain) best(data []byte, i, most int) (length, distance int) {
	if most < c.width {
		return 0, 0
	}
	here := data[i : i+most]
	length = c.width - 1
	next := c.heads[c.hash(here)]
	for next > 0 && length < most {
		j := int(next) - 1
		if i-j > reach {
			break
		}
		if data[j+length] == here[length] { // else it is no longer than what was found
			if n := sameBytes(data[j:], here); n > length {
				length, distance = n, i-j
			}
		}
		next = c.links[j%len(c.links)]
	}
	if distance == 0 {
		return 0, 0
	}
	return length, distance
}

// sameBytes is how many bytes of b, from its first on, are those of a, which is no shorter.
func sameBytes(a, b []byte) int {
	for i, x := range b {
		if a[i] != x {
			return i
		}
	}
	return len(b)
}
