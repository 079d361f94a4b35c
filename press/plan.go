package press

import "slices"

// A plan is a dynamic block's head: its codes, and how their lengths are told.
type plan struct {
	books     books
	literals  int // how many literal lengths are told
	distances int
	list      []listed
	short     []uint8 // the lengths of the length code's words
	shorts    int     // how many of these are told
}

// A listed is a symbol of the length code, with its further bits.
type listed struct {
	symbol uint8
	more   uint8
}

// furtherBits is how many further bits a symbol of the length code has.
func furtherBits(symbol int) int {
	if symbol < repeatLast {
		return 0
	}
	return int(repeatRows[symbol-repeatLast].bits)
}

func planDynamic(t *tally) plan {
	literals, distances := literalLengths(t), distanceLengths(t)
	p := plan{
		books:     books{layCode(literals).book(), layCode(distances).book()},
		literals:  told(literals, minLiterals),
		distances: told(distances, minDistances),
	}
	p.list = listLengths(slices.Concat(literals[:p.literals], distances[:p.distances]))
	p.short = shortLengths(p.list)
	p.shorts = toldShorts(p.short)
	return p
}

func literalLengths(t *tally) []uint8 {
	lengths := lengthsOf(t.literals[:], greatestLength)
	if fillOf(lengths) < wholeCode {
		lengths[0] = 1 // the block's end alone has a count, and its word alone would be a code that is part
	}
	return lengths
}

func distanceLengths(t *tally) []uint8 {
	lengths := lengthsOf(t.distances[:], greatestLength)
	if told(lengths, 0) == 0 {
		lengths[0] = 1
	}
	return lengths
}

// told is how many lengths must be told, up to the last that isn't 0, and so many at least.
func told(lengths []uint8, least int) int {
	n := len(lengths)
	for n > least && lengths[n-1] == 0 {
		n--
	}
	return n
}

// listLengths tells the lengths run by run.
func listLengths(lengths []uint8) []listed {
	var out []listed
	for len(lengths) > 0 {
		run := 1
		for run < len(lengths) && lengths[run] == lengths[0] {
			run++
		}
		if lengths[0] == 0 {
			out = listZeros(out, run)
		} else {
			out = listRun(out, lengths[0], run)
		}
		lengths = lengths[run:]
	}
	return out
}

func listZeros(out []listed, run int) []listed {
	for run >= 11 {
		n := min(run, 138)
		out = append(out, listed{manyZeros, uint8(n - 11)})
		run -= n
	}
	if run >= 3 {
		return append(out, listed{fewZeros, uint8(run - 3)})
	}
	return listPlain(out, 0, run)
}

func listRun(out []listed, length uint8, run int) []listed {
	out = listPlain(out, length, 1)
	run--
	for run >= 3 {
		n := min(run, 6)
		out = append(out, listed{repeatLast, uint8(n - 3)})
		run -= n
	}
	return listPlain(out, length, run)
}

func listPlain(out []listed, length uint8, times int) []listed {
	for range times {
		out = append(out, listed{symbol: length})
	}
	return out
}

// shortLengths makes the length code of what is listed.
func shortLengths(list []listed) []uint8 {
	counts := make([]int, lengthSymbols)
	for _, x := range list {
		counts[x.symbol]++
	}
	lengths := lengthsOf(counts, greatestShortLength)
	if fillOf(lengths) == wholeCode {
		return lengths
	}
	if lengths[0] == 0 { // one symbol alone has a count, and needs another beside it
		lengths[0] = 1
	} else {
		lengths[1] = 1
	}
	return lengths
}

// toldShorts is how many lengths of the length code must be told, in the order in which they are.
func toldShorts(short []uint8) int {
	n := lengthSymbols
	for n > minLengths && short[lengthOrder[n-1]] == 0 {
		n--
	}
	return n
}

// bits is how many bits the head has, behind the block's kind.
func (p *plan) bits() int {
	sum := 14 + 3*p.shorts
	for _, x := range p.list {
		sum += int(p.short[x.symbol]) + furtherBits(int(x.symbol))
	}
	return sum
}

// plan writes the head of a dynamic block, behind the block's kind.
func (w *bitWriter) plan(p *plan) {
	w.number(p.literals-minLiterals, 5)
	w.number(p.distances-minDistances, 5)
	w.number(p.shorts-minLengths, 4)
	for k := range p.shorts {
		w.number(int(p.short[lengthOrder[k]]), 3)
	}
	b := layCode(p.short).book()
	for _, x := range p.list {
		w.word(&b, int(x.symbol))
		w.number(int(x.more), furtherBits(int(x.symbol)))
	}
}
