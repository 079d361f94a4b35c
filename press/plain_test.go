package press

import (
	"bytes"
	"slices"
	"strconv"
	"strings"
	"testing"

	"graft/api"
)

// Plain readings of the chapter, with no eye to time, that the package is held against.

// fault is what a plain reader panics with.
type fault struct {
	e  api.Errno
	at int
}

// plainReader reads a stream's bits, which are texts of 0 and 1 here.
type plainReader struct {
	bits  string
	at    int
	limit int
	out   []byte
}

func bitsOf(data []byte) string {
	var b strings.Builder
	for _, x := range data {
		for k := range 8 {
			b.WriteByte('0' + x>>k&1)
		}
	}
	return b.String()
}

// bytesOf lays bits into bytes; those that are left of the last one are 0.
func bytesOf(bits string) []byte {
	out := make([]byte, (len(bits)+7)/8)
	for i := range bits {
		out[i/8] |= (bits[i] - '0') << (i % 8)
	}
	return out
}

// numberBits is a number of n bits, the lowest first.
func numberBits(v, n int) string {
	var b strings.Builder
	for k := range n {
		b.WriteByte('0' + byte(v>>k&1))
	}
	return b.String()
}

func (r *plainReader) fail(e api.Errno) { panic(fault{e, (r.at - 1) / 8}) }

func (r *plainReader) bit() string {
	if r.at == len(r.bits) {
		panic(fault{api.ErrShort, len(r.bits) / 8})
	}
	r.at++
	return r.bits[r.at-1 : r.at]
}

func (r *plainReader) number(n int) int {
	v := 0
	for k := range n {
		if r.bit() == "1" {
			v += 1 << k
		}
	}
	return v
}

// plainWords is each symbol's word, "" where it has none.
func plainWords(lengths []int) []string {
	words := make([]string, len(lengths))
	first := 0
	for k := 1; k <= 15; k++ {
		for symbol, n := range lengths {
			if n == k {
				words[symbol] = plainWord(first, k)
				first++
			}
		}
		first *= 2
	}
	return words
}

// plainWord is a word of n bits, the highest first.
func plainWord(v, n int) string {
	s := strconv.FormatInt(int64(v), 2)
	return strings.Repeat("0", n-len(s)) + s
}

// plainCode is the symbol of each word, and -1 for each row of bits that begins one.
type plainCode map[string]int

func codeOf(lengths []int) plainCode {
	code := plainCode{}
	for symbol, word := range plainWords(lengths) {
		for k := 1; k < len(word); k++ {
			code[word[:k]] = -1
		}
		if word != "" {
			code[word] = symbol
		}
	}
	return code
}

func (r *plainReader) symbol(code plainCode) int {
	start := r.at
	for {
		r.bit()
		symbol, begins := code[r.bits[start:r.at]]
		if !begins {
			r.fail(api.ErrSymbol)
		}
		if symbol >= 0 {
			return symbol
		}
	}
}

// plainFill compares a code with a whole one: -1 part, 0 whole, 1 over.
func plainFill(lengths []int) int {
	s := 0
	for _, n := range lengths {
		if n > 0 {
			s += 1 << (15 - n)
		}
	}
	return min(1, max(-1, s-1<<15))
}

// plainLength is where a length symbol begins, and how many further bits it has.
func plainLength(symbol int) (int, int) {
	if symbol == 285 {
		return 258, 0
	}
	length := 3
	for s := 257; ; s++ {
		bits := 0
		if s >= 265 {
			bits = (s - 261) / 4
		}
		if s == symbol {
			return length, bits
		}
		length += 1 << bits
	}
}

// plainDistance is where a distance symbol begins, and how many further bits it has.
func plainDistance(k int) (int, int) {
	if k < 4 {
		return k + 1, 0
	}
	h := k/2 - 1
	return 1 + 1<<(h+1) + k%2*(1<<h), h
}

func plainFixed() ([]int, []int) {
	var literals []int
	for symbol := range 288 {
		n := 8
		if symbol >= 144 && symbol <= 255 {
			n = 9
		}
		if symbol >= 256 && symbol <= 279 {
			n = 7
		}
		literals = append(literals, n)
	}
	return literals, slices.Repeat([]int{5}, 32)
}

var plainLiterals, plainDistances = func() (plainCode, plainCode) {
	literals, distances := plainFixed()
	return codeOf(literals), codeOf(distances)
}()

var plainOrder = []int{16, 17, 18, 0, 8, 7, 9, 6, 10, 5, 11, 4, 12, 3, 13, 2, 14, 1, 15}

func (r *plainReader) stored() {
	for r.at%8 != 0 {
		r.bit()
	}
	n, complement := r.number(16), r.number(16)
	if n != 65535-complement {
		r.fail(api.ErrStored)
	}
	if len(r.out)+n > r.limit {
		r.fail(api.ErrRoom)
	}
	for range n {
		b := r.number(8)
		r.out = append(r.out, byte(b))
	}
}

func (r *plainReader) dynamic() ([]int, []int) {
	literals := r.number(5)
	if literals > 29 {
		r.fail(api.ErrCode)
	}
	distances := r.number(5)
	if distances > 29 {
		r.fail(api.ErrCode)
	}
	short := make([]int, 19)
	for k := range r.number(4) + 4 {
		short[plainOrder[k]] = r.number(3)
	}
	if plainFill(short) != 0 {
		r.fail(api.ErrCode)
	}
	list := r.list(codeOf(short), literals+257+distances+1)
	return list[:literals+257], list[literals+257:]
}

func (r *plainReader) list(code plainCode, all int) []int {
	var list []int
	for len(list) < all {
		symbol := r.symbol(code)
		if symbol < 16 {
			list = append(list, symbol)
			continue
		}
		v, times := 0, 0
		switch symbol {
		case 16:
			if len(list) == 0 {
				r.fail(api.ErrCode)
			}
			v, times = list[len(list)-1], 3+r.number(2)
		case 17:
			times = 3 + r.number(3)
		case 18:
			times = 11 + r.number(7)
		}
		list = append(list, slices.Repeat([]int{v}, times)...)
		if len(list) > all {
			r.fail(api.ErrCode)
		}
	}
	return list
}

func (r *plainReader) checkCodes(literals, distances []int) {
	words := len(distances) - len(slices.DeleteFunc(slices.Clone(distances), func(n int) bool { return n > 0 }))
	bad := literals[256] == 0 || plainFill(literals) != 0 || plainFill(distances) > 0
	if plainFill(distances) < 0 && words > 0 && !(words == 1 && slices.Contains(distances, 1)) {
		bad = true
	}
	if bad {
		r.fail(api.ErrCode)
	}
}

func (r *plainReader) symbols(literals, distances plainCode) {
	for {
		symbol := r.symbol(literals)
		if symbol == 256 {
			return
		}
		if symbol > 285 {
			r.fail(api.ErrSymbol)
		}
		if symbol < 256 {
			if len(r.out) == r.limit {
				r.fail(api.ErrRoom)
			}
			r.out = append(r.out, byte(symbol))
			continue
		}
		length, bits := plainLength(symbol)
		length += r.number(bits)
		far := r.symbol(distances)
		if far > 29 {
			r.fail(api.ErrSymbol)
		}
		distance, bits := plainDistance(far)
		distance += r.number(bits)
		if distance > len(r.out) {
			r.fail(api.ErrFar)
		}
		if len(r.out)+length > r.limit {
			r.fail(api.ErrRoom)
		}
		for range length {
			r.out = append(r.out, r.out[len(r.out)-distance])
		}
	}
}

func (r *plainReader) blocks() {
	for last := false; !last; {
		last = r.bit() == "1"
		switch r.number(2) {
		case 0:
			r.stored()
		case 1:
			r.symbols(plainLiterals, plainDistances)
		case 2:
			literals, distances := r.dynamic()
			r.checkCodes(literals, distances)
			r.symbols(codeOf(literals), codeOf(distances))
		case 3:
			r.fail(api.ErrBlock)
		}
	}
}

// plainRead reads the stream that data begins with: what is decided, the fault if there is one, and how many bytes it has.
func plainRead(data []byte, limit int) (out []byte, f fault, size int) {
	r := &plainReader{bits: bitsOf(data), limit: limit}
	defer func() {
		if x := recover(); x != nil {
			f = x.(fault)
		}
		out, size = r.out, (r.at+7)/8
	}()
	r.blocks()
	return
}

func plainInflate(data []byte, limit int) ([]byte, api.Errno, int) {
	if len(data) > 1<<21 {
		return nil, api.ErrLong, 0
	}
	if limit < 0 || limit > 1<<21 {
		return nil, api.ErrArg, 0
	}
	out, f, size := plainRead(data, limit)
	if f.e != api.OK {
		return nil, f.e, f.at
	}
	if size < len(data) {
		return nil, api.ErrTail, size
	}
	return out, api.OK, 0
}

func plainCrc(data []byte) uint32 {
	r := uint32(0xffffffff)
	for _, b := range data {
		for k := range 8 {
			turn := (r^uint32(b>>k))&1 == 1
			r >>= 1
			if turn {
				r ^= 0xedb88320
			}
		}
	}
	return ^r
}

// plainBytes takes fields out of data and panics where they are not there.
type plainBytes struct {
	data []byte
	at   int
}

func (p *plainBytes) take(n int) []byte {
	if len(p.data)-p.at < n {
		panic(fault{api.ErrShort, len(p.data)})
	}
	p.at += n
	return p.data[p.at-n : p.at]
}

// want takes n bytes, the lowest first, that must be a number.
func (p *plainBytes) want(v uint32, n int, e api.Errno) {
	for k, b := range p.take(n) {
		if b != byte(v>>(8*k)) {
			panic(fault{e, p.at - n})
		}
	}
}

func (p *plainBytes) member(out []byte, limit int) []byte {
	start := p.at
	p.want(0x1f, 1, api.ErrMagic)
	p.want(0x8b, 1, api.ErrMagic)
	p.want(8, 1, api.ErrMethod)
	flags := p.take(1)[0]
	if flags >= 32 {
		panic(fault{api.ErrMethod, p.at - 1})
	}
	p.take(6)
	if flags&4 > 0 {
		n := p.take(2)
		p.take(int(n[0]) + 256*int(n[1]))
	}
	for _, flag := range []byte{8, 16} {
		if flags&flag > 0 {
			for p.take(1)[0] != 0 {
			}
		}
	}
	if flags&2 > 0 {
		p.want(plainCrc(p.data[start:p.at]), 2, api.ErrSum)
	}
	made, f, size := plainRead(p.data[p.at:], limit-len(out))
	if f.e != api.OK {
		panic(fault{f.e, p.at + f.at})
	}
	p.at += size
	p.want(plainCrc(made), 4, api.ErrSum)
	p.want(uint32(len(made)), 4, api.ErrSum)
	return append(out, made...)
}

func plainGunzip(data []byte, limit int) (out []byte, e api.Errno, at int) {
	if len(data) > 1<<21 {
		return nil, api.ErrLong, 0
	}
	if limit < 0 || limit > 1<<21 {
		return nil, api.ErrArg, 0
	}
	defer func() {
		if x := recover(); x != nil {
			out, e, at = nil, x.(fault).e, x.(fault).at
		}
	}()
	p := &plainBytes{data: data}
	out = p.member(out, limit)
	for p.at < len(data) {
		out = p.member(out, limit)
	}
	return out, api.OK, 0
}

// plainToken is a literal, or a match if its length isn't 0.
type plainToken struct {
	literal, length, distance int
}

// plainPlaces is where each three bytes begin.
func plainPlaces(data []byte) map[string][]int {
	places := map[string][]int{}
	for i := range len(data) - 2 {
		three := string(data[i : i+3])
		places[three] = append(places[three], i)
	}
	return places
}

// plainTokens looks at every place ahead where the same three bytes begin.
func plainTokens(data []byte, places map[string][]int, start, end int) []plainToken {
	var out []plainToken
	for i := start; i < end; {
		best := plainToken{literal: int(data[i])}
		var there []int
		if end-i >= 3 {
			there = places[string(data[i:i+3])]
		}
		for _, j := range there {
			m := 0
			for j < i && i-j <= 32768 && m < 258 && i+m < end && data[i+m] == data[j+m] {
				m++
			}
			if m >= 3 && m >= best.length { // of equals the last, which is the nearest
				best = plainToken{length: m, distance: i - j}
			}
		}
		out = append(out, best)
		i += max(1, best.length)
	}
	return out
}

// plainSymbol is the symbol from a first one on to which a value belongs, and its further bits.
func plainSymbol(v, first, last int, row func(int) (int, int)) (int, string) {
	for symbol := last; symbol >= first; symbol-- {
		if begin, bits := row(symbol); begin <= v {
			return symbol, numberBits(v-begin, bits)
		}
	}
	panic("no symbol")
}

func lengthSymbol(v int) (int, string)   { return plainSymbol(v, 257, 285, plainLength) }
func distanceSymbol(v int) (int, string) { return plainSymbol(v, 0, 29, plainDistance) }

// plainTree has its symbols, and a number that rises as trees are made.
type plainTree struct {
	weight, made int
	symbols      []int
}

// plainLengths also tells how often the counts had to be halved.
func plainLengths(counts []int, most int) ([]int, int) {
	lengths := make([]int, len(counts))
	var trees []plainTree
	for symbol, n := range counts {
		if n > 0 {
			trees = append(trees, plainTree{n, symbol, []int{symbol}})
		}
	}
	if len(trees) == 1 {
		lengths[trees[0].symbols[0]] = 1
	}
	for made := len(counts); len(trees) > 1; made++ {
		slices.SortFunc(trees, func(a, b plainTree) int {
			if a.weight != b.weight {
				return a.weight - b.weight
			}
			return a.made - b.made
		})
		both := slices.Concat(trees[0].symbols, trees[1].symbols)
		for _, symbol := range both {
			lengths[symbol]++
		}
		trees = append(trees[2:], plainTree{trees[0].weight + trees[1].weight, made, both})
	}
	if slices.Max(lengths) <= most {
		return lengths, 0
	}
	halves := make([]int, len(counts))
	for symbol, n := range counts {
		if n > 0 {
			halves[symbol] = (n + 1) / 2
		}
	}
	lengths, times := plainLengths(halves, most)
	return lengths, times + 1
}

// plainListed is a symbol of the length code with its further bits.
type plainListed struct {
	symbol int
	bits   string
}

func plainList(lengths []int) []plainListed {
	var out []plainListed
	for i := 0; i < len(lengths); {
		v, left := lengths[i], 0
		for i < len(lengths) && lengths[i] == v {
			i++
			left++
		}
		if v != 0 {
			out = append(out, plainListed{v, ""})
			left--
		}
		for left > 0 {
			switch {
			case v == 0 && left >= 11:
				n := min(left, 138)
				out = append(out, plainListed{18, numberBits(n-11, 7)})
				left -= n
			case v == 0 && left >= 3:
				out = append(out, plainListed{17, numberBits(left-3, 3)})
				left = 0
			case v != 0 && left >= 3:
				n := min(left, 6)
				out = append(out, plainListed{16, numberBits(n-3, 2)})
				left -= n
			default:
				out = append(out, plainListed{v, ""})
				left--
			}
		}
	}
	return out
}

// plainBlock is a piece's three forms, each as the bits behind the one that tells whether it is the last block's, and what came up on the way.
type plainBlock struct {
	forms                              [3]string
	literalHalves, farHalves, shortCut int
}

func plainPiece(data []byte, places map[string][]int, start, end, ahead int) plainBlock {
	tokens := plainTokens(data, places, start, end)
	var b plainBlock
	b.forms[0] = numberBits(0, 2) + strings.Repeat("0", (8-(ahead+3)%8)%8) + numberBits(end-start, 16) + numberBits(65535-(end-start), 16) + bitsOf(data[start:end])
	literals, distances := plainFixed()
	b.forms[1] = numberBits(1, 2) + plainBody(tokens, literals, distances)
	counts, fars := plainCounts(tokens)
	literals, b.literalHalves = plainLengths(counts, 15)
	distances, b.farHalves = plainLengths(fars, 15)
	if slices.Max(fars) == 0 {
		distances[0] = 1
	}
	if len(tokens) == 0 {
		literals[0], literals[256] = 1, 1
	}
	var head string
	head, b.shortCut = plainHead(literals, distances)
	b.forms[2] = numberBits(2, 2) + head + plainBody(tokens, literals, distances)
	return b
}

func plainCounts(tokens []plainToken) ([]int, []int) {
	counts, fars := make([]int, 286), make([]int, 30)
	counts[256] = 1
	for _, t := range tokens {
		if t.length == 0 {
			counts[t.literal]++
			continue
		}
		symbol, _ := lengthSymbol(t.length)
		far, _ := distanceSymbol(t.distance)
		counts[symbol]++
		fars[far]++
	}
	return counts, fars
}

func plainBody(tokens []plainToken, literals, distances []int) string {
	words, fars := plainWords(literals), plainWords(distances)
	var b strings.Builder
	for _, t := range tokens {
		if t.length == 0 {
			b.WriteString(words[t.literal])
			continue
		}
		symbol, more := lengthSymbol(t.length)
		far, further := distanceSymbol(t.distance)
		b.WriteString(words[symbol] + more + fars[far] + further)
	}
	return b.String() + words[256]
}

// plainHead is the head of a dynamic block behind its kind, and how often the length code's counts were halved.
func plainHead(literals, distances []int) (string, int) {
	literals, distances = plainCut(literals, 257), plainCut(distances, 1)
	list := plainList(slices.Concat(literals, distances))
	counts := make([]int, 19)
	for _, x := range list {
		counts[x.symbol]++
	}
	short, halves := plainLengths(counts, 7)
	if len(slices.DeleteFunc(slices.Clone(short), func(n int) bool { return n == 0 })) == 1 {
		if short[0] == 0 {
			short[0] = 1
		} else {
			short[1] = 1
		}
	}
	var told []int
	for _, symbol := range plainOrder {
		told = append(told, short[symbol])
	}
	told = plainCut(told, 4)
	head := numberBits(len(literals)-257, 5) + numberBits(len(distances)-1, 5) + numberBits(len(told)-4, 4)
	for _, n := range told {
		head += numberBits(n, 3)
	}
	words := plainWords(short)
	for _, x := range list {
		head += words[x.symbol] + x.bits
	}
	return head, halves
}

// plainCut takes the zeros behind the last other length away, down to so many lengths.
func plainCut(lengths []int, least int) []int {
	for len(lengths) > least && lengths[len(lengths)-1] == 0 {
		lengths = lengths[:len(lengths)-1]
	}
	return lengths
}

// plainDeflate also tells each piece's forms.
func plainDeflate(data []byte) ([]byte, []plainBlock) {
	out := ""
	places := plainPlaces(data)
	var blocks []plainBlock
	for start := 0; start == 0 || start < len(data); start += 32768 {
		end := min(start+32768, len(data))
		b := plainPiece(data, places, start, end, len(out))
		blocks = append(blocks, b)
		form := b.forms[0]
		for _, f := range b.forms[1:] {
			if len(f) < len(form) {
				form = f
			}
		}
		last := "0"
		if end == len(data) {
			last = "1"
		}
		out += last + form
	}
	return bytesOf(out), blocks
}

// Samples.

// noise is bytes without order, the same each time.
func noise(n int, seed uint32) []byte {
	out := make([]byte, n)
	for i := range out {
		seed = seed*1664525 + 1013904223
		out[i] = byte(seed >> 24)
	}
	return out
}

// fewBytes is noise of so many unlike bytes.
func fewBytes(n, kinds int, seed uint32) []byte {
	out := noise(n, seed)
	for i := range out {
		out[i] %= byte(kinds)
	}
	return out
}

// skewed is noise in which small bytes are far more frequent.
func skewed(n int, seed uint32) []byte {
	a := noise(n, seed)
	for i, x := range a {
		a[i] = byte(int(x) * int(x) * int(x) >> 17)
	}
	return a
}

func quick(n int) []byte {
	return bytes.Repeat([]byte("the quick brown fox jumps over the lazy dog. "), n/45+1)[:n]
}

// check tells what two answers of a reader differ in.
func check(t *testing.T, what string, out []byte, e api.Errno, at int, wantOut []byte, wantE api.Errno, wantAt int) {
	t.Helper()
	if e != wantE || at != wantAt || !bytes.Equal(out, wantOut) {
		t.Fatalf("%s: %d bytes %.20x, %d, %d, want %d bytes %.20x, %d, %d", what, len(out), out, e, at, len(wantOut), wantOut, wantE, wantAt)
	}
}
