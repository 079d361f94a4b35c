package press

import (
	"bytes"
	"compress/flate"
	"math"
	"slices"
	"strconv"
	"strings"
	"testing"

	"graft/api"
)

// Streams made by hand, as bits.

const (
	lastBlock  = "1"
	otherBlock = "0"
	emptyBlock = otherBlock + "10" + "0000000" // a fixed block of nothing
)

func blockBits(last string, kind int) string { return last + numberBits(kind, 2) }

// lengthList is so many lengths, of which those of the pairs (symbol, length) aren't 0.
func lengthList(n int, pairs ...int) []int {
	out := make([]int, n)
	for i := 0; i < len(pairs); i += 2 {
		out[pairs[i]] = pairs[i+1]
	}
	return out
}

// headBits is the numbers of a dynamic block and the lengths of the length code, all of them told.
func headBits(literals, distances int, short []int) string {
	head := numberBits(literals-257, 5) + numberBits(distances-1, 5) + numberBits(15, 4)
	for _, symbol := range plainOrder {
		head += numberBits(short[symbol], 3)
	}
	return head
}

// evenShort is a length code without repeats: each length is told by four bits.
func evenShort() []int { return append(slices.Repeat([]int{4}, 16), 0, 0, 0) }

// repeatShort is a length code with the lengths 0, 1, 2, 8 and all repeats.
func repeatShort() []int {
	return lengthList(19, 0, 3, 1, 3, 2, 3, 8, 3, 16, 3, 17, 3, 18, 2)
}

// evenHead is the head of a dynamic block behind its kind, told length by length.
func evenHead(literals, distances []int) string {
	head := headBits(len(literals), len(distances), evenShort())
	for _, n := range slices.Concat(literals, distances) {
		head += plainWord(n, 4)
	}
	return head
}

// abc is a literal code of the words 0 (a), 10 (b), 110 (256), 111 (257, a length of 3).
func abc() []int { return lengthList(258, 'a', 1, 'b', 2, 256, 3, 257, 3) }

func fixedWord(symbol int) string {
	literals, _ := plainFixed()
	return plainWords(literals)[symbol]
}

func fixedMatch(length, distance int) string {
	symbol, more := lengthSymbol(length)
	far, further := distanceSymbol(distance)
	return fixedWord(symbol) + more + plainWord(far, 5) + further
}

func TestInflateExamples(t *testing.T) {
	for _, c := range []struct {
		data  []byte
		limit int
		out   string
		e     api.Errno
		at    int
	}{
		{[]byte{0x03, 0x00}, 0, "", api.OK, 0},
		{[]byte{0x4b, 0x04, 0x00}, 1, "a", api.OK, 0},
		{nil, 5, "", api.ErrShort, 0},
		{[]byte{}, 5, "", api.ErrShort, 0},
		{[]byte{0x07}, 5, "", api.ErrBlock, 0},
		{[]byte{0x01, 0x01, 0x00, 0xfe, 0xff, 0x41}, 5, "A", api.OK, 0},
		{[]byte{0x01, 0x01, 0x00, 0xff, 0xff, 0x41}, 5, "", api.ErrStored, 4},
		{[]byte{0x01, 0x01, 0x00, 0xfe, 0xff, 0x41, 0x00}, 5, "", api.ErrTail, 6},
		{[]byte{0x01, 0x02, 0x00, 0xfd, 0xff, 0x41, 0x42}, 1, "", api.ErrRoom, 4},
		{[]byte{0x03, 0x02, 0x00}, 9, "", api.ErrFar, 1},
		{[]byte{0x4b, 0x04}, 9, "", api.ErrShort, 2},
		{[]byte{0x4b, 0x04, 0x00}, 0, "", api.ErrRoom, 1},
	} {
		out, e, at := Inflate(c.data, c.limit)
		check(t, "Inflate of "+bitsOf(c.data), out, e, at, []byte(c.out), c.e, c.at)
	}
}

// Each fault is known by the last of the bits that stand here, and not ahead of it; what comes behind has no part in it.
func TestInflateFaults(t *testing.T) {
	dynamic := blockBits(lastBlock, 2)
	abcHead := func(distances ...int) string { return dynamic + evenHead(abc(), distances) }
	for _, c := range []struct {
		what  string
		bits  string
		limit int
		e     api.Errno
	}{
		{"kind 3", blockBits(lastBlock, 3), 9, api.ErrBlock},
		{"kind 3 in the second block", emptyBlock + blockBits(otherBlock, 3), 9, api.ErrBlock},
		{"no complement", blockBits(lastBlock, 0) + "10101" + numberBits(5, 16) + numberBits(5, 16), 9, api.ErrStored},
		{"no complement by one bit", blockBits(lastBlock, 0) + "00000" + numberBits(0, 16) + numberBits(0x7fff, 16), 9, api.ErrStored},
		{"no complement ahead of no room", blockBits(lastBlock, 0) + "00000" + numberBits(5, 16) + numberBits(5, 16), 0, api.ErrStored},
		{"no room for stored bytes", blockBits(lastBlock, 0) + "00000" + numberBits(10, 16) + numberBits(65525, 16), 9, api.ErrRoom},
		{"HLIT 30", dynamic + numberBits(30, 5), 9, api.ErrCode},
		{"HLIT 31", dynamic + numberBits(31, 5), 9, api.ErrCode},
		{"HDIST 30", dynamic + numberBits(29, 5) + numberBits(30, 5), 9, api.ErrCode},
		{"HDIST 31", dynamic + numberBits(0, 5) + numberBits(31, 5), 9, api.ErrCode},
		{"a length code of no word", dynamic + headBits(257, 1, lengthList(19)), 9, api.ErrCode},
		{"a length code of one word", dynamic + headBits(257, 1, lengthList(19, 0, 1)), 9, api.ErrCode},
		{"a length code that is part", dynamic + headBits(257, 1, lengthList(19, 0, 1, 1, 2, 2, 3)), 9, api.ErrCode},
		{"a length code that is over", dynamic + headBits(257, 1, lengthList(19, 0, 1, 1, 2, 2, 2, 3, 7)), 9, api.ErrCode},
		{"a length code of four lengths that is part", dynamic + numberBits(0, 14) + "100" + "010" + "000" + "000", 9, api.ErrCode},
		{"a 16 first", dynamic + headBits(257, 1, repeatShort()) + wordOf(repeatShort(), 16), 9, api.ErrCode},
		{"a 16 beyond the last", dynamic + headBits(257, 1, repeatShort()) + zerosOf(255) + wordOf(repeatShort(), 1) + wordOf(repeatShort(), 16) + "00", 9, api.ErrCode},
		{"a 17 beyond the last", dynamic + headBits(257, 1, repeatShort()) + zerosOf(255) + wordOf(repeatShort(), 17) + "010", 9, api.ErrCode},
		{"an 18 beyond the last", dynamic + headBits(257, 1, repeatShort()) + zerosOf(247) + wordOf(repeatShort(), 18) + numberBits(1, 7), 9, api.ErrCode},
		{"256 without a word", dynamic + evenHead(lengthList(257, 'a', 1, 'b', 1), []int{1}), 9, api.ErrCode},
		{"a literal code of 256 alone", dynamic + evenHead(lengthList(257, 256, 1), []int{1}), 9, api.ErrCode},
		{"a literal code that is part", dynamic + evenHead(lengthList(257, 'a', 2, 256, 1), []int{1}), 9, api.ErrCode},
		{"a literal code that is over", dynamic + evenHead(lengthList(257, 'a', 1, 'b', 15, 256, 1), []int{1}), 9, api.ErrCode},
		{"a distance code that is over", abcHead(1, 1, 15), 9, api.ErrCode},
		{"a distance code that is part", abcHead(1, 2), 9, api.ErrCode},
		{"a distance code of one word of two bits", abcHead(0, 2), 9, api.ErrCode},
		{"a distance code of two words of two bits", abcHead(2, 2), 9, api.ErrCode},
		{"a distance code of one word of fifteen bits", abcHead(15), 9, api.ErrCode},
		{"a word of a distance code without words", abcHead(0) + "0" + "111" + "0", 9, api.ErrSymbol},
		{"another word of a distance code without words", abcHead(0, 0) + "0" + "111" + "1", 9, api.ErrSymbol},
		{"another word than the distance code's one", abcHead(1) + "0" + "111" + "1", 9, api.ErrSymbol},
		{"symbol 286", blockBits(lastBlock, 1) + fixedWord(286), 9, api.ErrSymbol},
		{"symbol 287", blockBits(lastBlock, 1) + fixedWord('a') + fixedWord(287), 9, api.ErrSymbol},
		{"distance symbol 30", blockBits(lastBlock, 1) + fixedWord('a') + fixedWord(285) + "11110", 300, api.ErrSymbol},
		{"distance symbol 31", blockBits(lastBlock, 1) + fixedWord('a') + fixedWord(266) + "1" + "11111", 300, api.ErrSymbol},
		{"distance symbol 30 ahead of no room", blockBits(lastBlock, 1) + fixedWord('a') + fixedWord(285) + "11110", 1, api.ErrSymbol},
		{"too far", blockBits(lastBlock, 1) + fixedWord('a') + fixedMatch(3, 2), 9, api.ErrFar},
		{"too far with further bits", blockBits(lastBlock, 1) + strings.Repeat(fixedWord('a'), 5) + fixedMatch(3, 6), 9, api.ErrFar},
		{"too far ahead of no room", blockBits(lastBlock, 1) + fixedWord('a') + fixedMatch(3, 2), 3, api.ErrFar},
		{"no room for a literal", blockBits(lastBlock, 1) + fixedWord('a') + fixedWord(200), 1, api.ErrRoom},
		{"no room for a match", blockBits(lastBlock, 1) + fixedWord('a') + fixedMatch(3, 1), 3, api.ErrRoom},
		{"no room for a match with further bits", blockBits(lastBlock, 1) + strings.Repeat(fixedWord('a'), 6) + fixedMatch(12, 6), 17, api.ErrRoom},
	} {
		for shift := range 8 {
			if shift == 0 || !strings.HasPrefix(c.bits[1:], "00") { // (a stored block's padding hangs on the shift)
				checkFault(t, c.what, shiftBits(t, shift)+c.bits, c.limit, c.e)
			}
		}
	}
}

// shiftBits is blocks of nothing, behind which a byte has so many bits already.
func shiftBits(t *testing.T, shift int) string {
	bits := ""
	if shift%2 == 1 {
		bits = blockBits(otherBlock, 2) + evenHead(lengthList(257, 'a', 1, 256, 1), []int{0}) + "1"
	}
	for range 4 {
		if len(bits)%8 == shift {
			return bits
		}
		bits += emptyBlock
	}
	t.Fatalf("no blocks of %d bits", shift)
	return ""
}

func wordOf(lengths []int, symbol int) string { return plainWords(lengths)[symbol] }

// zerosOf lists so many lengths 0 by repeatShort, each by its own word.
func zerosOf(n int) string { return strings.Repeat(wordOf(repeatShort(), 0), n) }

func checkFault(t *testing.T, what, bits string, limit int, e api.Errno) {
	t.Helper()
	place := (len(bits) - 1) / 8
	for _, tail := range []string{"", "1111111", "00000001", strings.Repeat("10110", 20)} {
		out, got, at := Inflate(bytesOf(bits+tail), limit)
		check(t, what+" and "+tail, out, got, at, nil, e, place)
	}
	out, got, at := Inflate(slices.Clip(bytesOf(bits)[:place]), limit)
	check(t, what+", cut", out, got, at, nil, api.ErrShort, place)
}

func TestInflateLimits(t *testing.T) {
	out := quick(300)
	data := Deflate(out)
	for _, c := range []struct {
		limit int
		e     api.Errno
	}{
		{math.MinInt, api.ErrArg}, {-1, api.ErrArg}, {0, api.ErrRoom}, {299, api.ErrRoom}, {300, api.OK},
		{api.MaxPress, api.OK}, {api.MaxPress + 1, api.ErrArg}, {math.MaxInt, api.ErrArg},
	} {
		wantOut, e, at := plainInflate(data, c.limit)
		if e != c.e {
			t.Fatalf("limit %d: plainly %d", c.limit, e)
		}
		got, e, place := Inflate(data, c.limit)
		check(t, "limit "+strconv.Itoa(c.limit), got, e, place, wantOut, c.e, at)
	}
	got, e, at := Inflate([]byte{7}, -1)
	check(t, "a limit and a kind", got, e, at, nil, api.ErrArg, 0)
}

// storedStream is a stream of stored blocks that has so many bytes in all, and its output.
func storedStream(size int) ([]byte, []byte) {
	var data, out []byte
	for size > 0 {
		n := min(65535, size-5)
		if left := size - 5 - n; left > 0 && left < 5 {
			n -= 5
		}
		size -= 5 + n
		b := noise(n, uint32(size))
		last := byte(0)
		if size == 0 {
			last = 1
		}
		data = append(data, last, byte(n), byte(n>>8), byte(^n), byte(^n>>8))
		data = append(data, b...)
		out = append(out, b...)
	}
	return data, out
}

func TestInflateMaxPress(t *testing.T) {
	data, out := storedStream(api.MaxPress)
	if len(data) != api.MaxPress {
		t.Fatalf("%d bytes", len(data))
	}
	got, e, at := Inflate(data, len(out))
	check(t, "MaxPress bytes", got, e, at, out, api.OK, 0)
	got, e, at = Inflate(data, len(out)-1)
	if e != api.ErrRoom || got != nil || at == 0 {
		t.Errorf("a limit of one less: %d, %d", e, at)
	}
	for _, limit := range []int{len(out), 0, -1, api.MaxPress + 1} {
		got, e, at = Inflate(append(data, 0), limit)
		check(t, "one more", got, e, at, nil, api.ErrLong, 0)
	}
	// The greatest output: a literal, and matches of 258 bytes behind it.
	zeros := blockBits(lastBlock, 1) + fixedWord(0) + strings.Repeat(fixedMatch(258, 1), 8128) + fixedMatch(127, 1)
	got, e, at = Inflate(bytesOf(zeros+fixedWord(256)), api.MaxPress)
	check(t, "an output of MaxPress bytes", got, e, at, make([]byte, api.MaxPress), api.OK, 0)
	got, e, at = Inflate(bytesOf(zeros+fixedWord(0)), api.MaxPress)
	check(t, "one byte more of output", got, e, at, nil, api.ErrRoom, (len(zeros)+7)/8)
}

// The bits that are passed over say nothing; a whole byte behind the end is one too many.
func TestInflatePassedBits(t *testing.T) {
	for padding := range 32 {
		bits := blockBits(otherBlock, 0) + numberBits(padding, 5) + numberBits(1, 16) + numberBits(65534, 16) + bitsOf([]byte("A"))
		bits += blockBits(lastBlock, 1) + fixedWord('b') + fixedWord(256) // 18 bits: 6 are left
		for left := range 64 {
			data := bytesOf(bits + numberBits(left, 6))
			out, e, at := Inflate(data, 2)
			check(t, "padding", out, e, at, []byte("Ab"), api.OK, 0)
			out, e, at = Inflate(append(data, byte(left)), 2)
			check(t, "padding and a byte", out, e, at, nil, api.ErrTail, len(data))
		}
	}
}

// Each length and the ends of each distance symbol come out as told, overlapping or not.
func TestInflateRows(t *testing.T) {
	past := noise(32768, 5)
	stored := blockBits(otherBlock, 0) + "00000" + numberBits(32768, 16) + numberBits(32767, 16) + bitsOf(past)
	head := bytesOf(stored)
	try := func(what, match string, length, distance int) {
		t.Helper()
		want := slices.Clone(past)
		for range length {
			want = append(want, want[len(want)-distance])
		}
		out, e, at := Inflate(append(slices.Clone(head), bytesOf(blockBits(lastBlock, 1)+match+fixedWord(256))...), len(want))
		check(t, what, out, e, at, want, api.OK, 0)
	}
	for length := 3; length <= 258; length++ {
		distance := 1 + length*length%32768
		try("length "+strconv.Itoa(length), fixedMatch(length, distance), length, distance)
	}
	for symbol := range 30 {
		begin, bits := plainDistance(symbol)
		for _, distance := range []int{begin, begin + 1<<bits - 1} {
			try("distance "+strconv.Itoa(distance), fixedMatch(258, distance), 258, distance)
		}
	}
	try("284 with 31", fixedWord(284)+"11111"+"00000", 258, 1)
	if _, last := plainDistance(29); last != 13 {
		t.Errorf("the last distance symbol has %d bits", last)
	}
}

// The distances reach into blocks ahead, and no farther than the output.
func TestInflateReach(t *testing.T) {
	bits := ""
	for _, b := range []byte("xyz") {
		bits += blockBits(otherBlock, 1) + fixedWord(int(b)) + fixedWord(256)
	}
	bits += blockBits(lastBlock, 1)
	for distance, want := range []string{"", "zzz", "yzy", "xyz"} {
		if distance > 0 {
			out, e, at := Inflate(bytesOf(bits+fixedMatch(3, distance)+fixedWord(256)), 9)
			check(t, "blocks ahead", out, e, at, []byte("xyz"+want), api.OK, 0)
		}
	}
	checkFault(t, "one too far", bits+fixedMatch(3, 4), 9, api.ErrFar)
}

func TestInflateCodes(t *testing.T) {
	dynamic := blockBits(lastBlock, 2)
	long := lengthList(286, 0, 15, 1, 15, 256, 14, 285, 13) // the longest words, and the last symbol
	for k := range 12 {
		long[10+k] = 1 + k
	}
	longWords := plainWords(long)
	for _, c := range []struct {
		what string
		bits string
		out  string
	}{
		{"no distance word, and none used", dynamic + evenHead(abc(), []int{0}) + "0" + "10" + "110", "ab"},
		{"thirty distance lengths without a word", dynamic + evenHead(abc(), lengthList(30)) + "0" + "110", "a"},
		{"one distance word", dynamic + evenHead(abc(), []int{1}) + "10" + "111" + "0" + "110", "bbbb"},
		{"one distance word, not the first", dynamic + evenHead(abc(), []int{0, 1}) + "0" + "10" + "111" + "0" + "110", "ababa"},
		{"two distance words", dynamic + evenHead(abc(), []int{1, 1}) + "0" + "10" + "111" + "1" + "111" + "0" + "110", "ababaaaa"},
		{"two literal words", dynamic + evenHead(lengthList(257, 'a', 1, 256, 1), []int{1}) + "0" + "0" + "1", "aa"},
		{"words of fifteen bits", dynamic + evenHead(long, lengthList(30, 0, 1, 29, 1)) + longWords[1] + longWords[0] + longWords[10] + longWords[285] + "0" + longWords[256], "\x01\x00" + strings.Repeat("\x0a", 259)},
	} {
		out, e, at := Inflate(bytesOf(c.bits), 300)
		check(t, c.what, out, e, at, []byte(c.out), api.OK, 0)
	}
}

func TestInflateRepeats(t *testing.T) {
	words := plainWords(repeatShort())
	head := func(distances int) string { return blockBits(lastBlock, 2) + headBits(257, distances, repeatShort()) }
	zeros := func(n int) string { return words[18] + numberBits(n-11, 7) }
	for _, c := range []struct {
		what string
		bits string
		out  string
	}{
		{"zeros to the end", head(14) + zeros(97) + words[1] + zeros(138) + zeros(20) + words[1] + words[17] + numberBits(0, 3) + zeros(11) + "0" + "1", "a"},
		{"few zeros to the end", head(10) + zeros(97) + words[1] + zeros(138) + zeros(20) + words[1] + words[17] + numberBits(7, 3) + "0" + "1", "a"},
		{"zeros again by 16", head(4) + zeros(97) + words[2] + zeros(138) + zeros(11) + words[17] + numberBits(1, 3) + words[16] + "00" + words[2] + words[16] + "11" + "00" + "11", "a"},
		{"twos from the literals into the distances", head(4) + zeros(97) + words[2] + zeros(138) + zeros(18) + words[2] + words[16] + "11" + "01" + "00" + "11", "\xfea"},
		{"zeros from the literals into the distances", blockBits(lastBlock, 2) + headBits(260, 11, repeatShort()) + zeros(97) + words[1] + zeros(138) + zeros(20) + words[1] + zeros(14) + "0" + "1", "a"},
		{"eights all the way", blockBits(lastBlock, 2) + headBits(257, 1, repeatShort()) + words[0] + words[8] + strings.Repeat(words[16]+"11", 42) + words[16] + "00" + words[0] + plainWord(96, 8) + plainWord(255, 8), "a"},
	} {
		out, e, at := Inflate(bytesOf(c.bits), 300)
		check(t, c.what, out, e, at, []byte(c.out), api.OK, 0)
	}
}

// streams is streams of all kinds, with their outputs.
func streams() [][]byte {
	words := plainWords(repeatShort())
	dynamic := blockBits(lastBlock, 2)
	all := [][]byte{
		Deflate(nil), Deflate([]byte("a")), Deflate(quick(100)), Deflate(skewed(60, 2)), Deflate(fewBytes(300, 2, 9)), Deflate(fewBytes(150, 5, 1)),
		bytesOf(emptyBlock + blockBits(lastBlock, 0) + "000" + numberBits(3, 16) + numberBits(65532, 16) + bitsOf([]byte("xyz"))),
		bytesOf(blockBits(otherBlock, 0) + "11111" + numberBits(0, 16) + numberBits(65535, 16) + blockBits(lastBlock, 1) + fixedWord(200) + fixedMatch(258, 1) + fixedMatch(17, 200) + fixedWord(256)),
		bytesOf(dynamic + evenHead(abc(), []int{0}) + "0" + "10" + "110"),
		bytesOf(dynamic + evenHead(abc(), []int{0, 1}) + "0" + "10" + "111" + "0" + "110"),
		bytesOf(dynamic + headBits(257, 10, repeatShort()) + words[18] + numberBits(86, 7) + words[1] + words[18] + numberBits(127, 7) + words[18] + numberBits(9, 7) + words[1] + words[17] + "111" + "0" + "1"),
	}
	for level := -2; level <= 9; level++ {
		all = append(all, packed(slices.Concat(quick(60), skewed(40, 3), quick(50)), level))
	}
	return all
}

// packed is a stream that the library's packer makes.
func packed(data []byte, level int) []byte {
	var b bytes.Buffer
	w, err := flate.NewWriter(&b, level)
	if err != nil {
		panic(err)
	}
	w.Write(data)
	w.Close()
	return b.Bytes()
}

func TestInflatePacked(t *testing.T) {
	for _, data := range [][]byte{nil, quick(100000), noise(70000, 3), skewed(200000, 4), fewBytes(100000, 3, 5), make([]byte, 300000)} {
		for level := -2; level <= 9; level++ {
			out, e, at := Inflate(packed(data, level), len(data))
			check(t, "packed", out, e, at, data, api.OK, 0)
		}
	}
}

// Whatever is turned, cut or put behind: the answer is the plain reader's.
func TestInflateTurned(t *testing.T) {
	for _, data := range streams() {
		full, e, at := Inflate(data, 9999)
		wantOut, wantE, wantAt := plainInflate(data, 9999)
		check(t, "whole", full, e, at, wantOut, wantE, wantAt)
		for n := range data {
			out, e, at := Inflate(data[:n:n], 9999)
			check(t, "cut", out, e, at, nil, api.ErrShort, n)
		}
		for limit := range len(full) + 2 {
			out, e, at := Inflate(data, limit)
			wantOut, wantE, wantAt := plainInflate(data, limit)
			check(t, "limit", out, e, at, wantOut, wantE, wantAt)
		}
		for bit := range 8 * len(data) {
			b := slices.Clone(data)
			b[bit/8] ^= 1 << (bit % 8)
			out, e, at := Inflate(b, len(full)+20)
			wantOut, wantE, wantAt := plainInflate(b, len(full)+20)
			check(t, "turned", out, e, at, wantOut, wantE, wantAt)
		}
	}
}

func TestInflateNoise(t *testing.T) {
	for seed := range uint32(3000) {
		data := noise(1+int(seed%60), seed*77)
		data[0] = data[0]&^7 | byte(seed%2) | byte(2*(seed%3)) // of a kind that may be
		out, e, at := Inflate(data, 400)
		wantOut, wantE, wantAt := plainInflate(data, 400)
		check(t, "noise", out, e, at, wantOut, wantE, wantAt)
	}
}
