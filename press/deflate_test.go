package press

import (
	"bytes"
	"compress/flate"
	"io"
	"slices"
	"strconv"
	"testing"

	"graft/api"
)

func TestDeflateExamples(t *testing.T) {
	for _, c := range []struct {
		data string
		want []byte
	}{
		{"", []byte{0x03, 0x00}},
		{"a", []byte{0x4b, 0x04, 0x00}},
	} {
		if got := Deflate([]byte(c.data)); !bytes.Equal(got, c.want) {
			t.Errorf("Deflate(%q): %x, want %x", c.data, got, c.want)
		}
	}
	zeros := make([]byte, 32768)
	tokens := newFinder(zeros).tokens(nil, 0, len(zeros))
	want := slices.Concat([]token{{}}, slices.Repeat([]token{{symbol: 285}}, 127), []token{{}})
	if !slices.Equal(tokens, want) {
		t.Errorf("32768 bytes 0: %d tokens", len(tokens))
	}
}

// holdDeflate holds Deflate of data against the plain one, and answers the plain one's blocks.
func holdDeflate(t *testing.T, what string, data []byte) []plainBlock {
	t.Helper()
	want, blocks := plainDeflate(data)
	got := Deflate(data)
	if !bytes.Equal(got, want) {
		t.Fatalf("Deflate of %s, %d bytes: %d bytes %.40x, want %d bytes %.40x", what, len(data), len(got), got, len(want), want)
	}
	checkBack(t, what, data, got)
	return blocks
}

// checkBack says that a stream's output is data, by Inflate and by the library's reader, and that it is no longer than it may be.
func checkBack(t *testing.T, what string, data, z []byte) {
	t.Helper()
	for _, limit := range []int{len(data), api.MaxPress} {
		out, e, at := Inflate(z, limit)
		check(t, what, out, e, at, data, api.OK, 0)
	}
	out, err := io.ReadAll(flate.NewReader(bytes.NewReader(z)))
	if err != nil || !bytes.Equal(out, data) {
		t.Fatalf("%s: read back: %v", what, err)
	}
	if pieces := max(1, (len(data)+32767)/32768); len(z) > len(data)+5*pieces {
		t.Fatalf("%s: %d bytes become %d", what, len(data), len(z))
	}
}

func TestDeflateSmall(t *testing.T) {
	for n := range 300 {
		seed := uint32(n)
		for _, data := range [][]byte{noise(n, seed), skewed(n, seed), quick(n), fewBytes(n, 1+n%7, seed), make([]byte, n)} {
			holdDeflate(t, "small data", data)
		}
	}
	for seed := range uint32(100) {
		n := int(seed) * 31
		holdDeflate(t, "skewed", skewed(n, seed))
		holdDeflate(t, "few kinds", fewBytes(n, 1+int(seed%40), seed))
		holdDeflate(t, "a mixture", slices.Concat(quick(n/3), noise(n/9, seed), quick(n/2), skewed(n/9, seed), noise(n/9, seed)))
	}
}

func TestDeflatePieces(t *testing.T) {
	for _, n := range []int{32767, 32768, 32769, 65536, 65537, 100000} {
		for k, data := range [][]byte{quick(n), noise(n, 7), skewed(n, 8), fewBytes(n, 20, 9)} {
			if blocks := holdDeflate(t, "pieces", data); len(blocks) != (n+32767)/32768 {
				t.Errorf("%d bytes of kind %d: %d blocks", n, k, len(blocks))
			}
		}
	}
	// Blocks of each form, behind and ahead of each other.
	text, wild := quick(32768), noise(32768, 4)
	holdDeflate(t, "unlike pieces", slices.Concat(text, wild, skewed(32768, 5), wild, text, []byte("xyz")))
	holdDeflate(t, "unlike pieces", slices.Concat(wild, []byte{0}))
}

// matchesOf is the lengths and distances of the matches in a piece.
func matchesOf(data []byte, start, end int) [][2]int {
	f := newFinder(data)
	for at := 0; at < start; at += pieceSize {
		f.tokens(nil, at, at+pieceSize)
	}
	var out [][2]int
	for _, x := range f.tokens(nil, start, end) {
		if x.symbol >= firstLength {
			length, _ := plainLength(int(x.symbol))
			distance, _ := plainDistance(int(x.far))
			out = append(out, [2]int{length + int(x.more), distance + int(x.further)})
		}
	}
	return out
}

func TestDeflateMatches(t *testing.T) {
	wild := noise(32768, 2)
	for _, c := range []struct {
		what       string
		data       []byte
		start, end int
		want       [][2]int
	}{
		{"two bytes", []byte("ab.ab"), 0, 5, nil},
		{"three bytes", []byte("abc.abc"), 0, 7, [][2]int{{3, 4}}},
		{"overlapping", []byte("abababab"), 0, 8, [][2]int{{6, 2}}},
		{"distance 1", []byte("aaaa"), 0, 4, [][2]int{{3, 1}}},
		{"of equals the nearest", []byte("abc.abc-abc+abc"), 0, 15, [][2]int{{3, 4}, {3, 4}, {3, 4}}},
		{"a longer one that is farther", []byte("abcdefg.abcde,abcd-abcdef"), 0, 25, [][2]int{{5, 8}, {4, 6}, {6, 19}}},
		{"a longer one among many that are long", []byte("abcdefghijkl.abcdefghij,abcdefghi-abcdefghijk"), 0, 45, [][2]int{{10, 13}, {9, 11}, {11, 34}}},
		{"258 bytes", slices.Concat(wild[:300], wild[:258]), 0, 558, [][2]int{{258, 300}}},
		{"259 bytes", slices.Concat(wild[:300], wild[:259]), 0, 559, [][2]int{{258, 300}}},
		{"261 bytes", slices.Concat(wild[:300], wild[:261]), 0, 561, [][2]int{{258, 300}, {3, 300}}},
		{"distance 32768", slices.Concat(wild, wild[:50]), 32768, 32818, [][2]int{{50, 32768}}},
		{"distance 32769", slices.Concat(wild, []byte{wild[0] ^ 1}, wild[:3]), 32768, 32772, nil},
		{"no farther than the piece", slices.Concat(wild[:20000], wild[:12760], wild[12760:12800]), 0, 32768, nil},
	} {
		got := matchesOf(c.data, c.start, c.end)
		if c.what == "no farther than the piece" { // the last match ends with the piece, though the data goes on like it
			got, c.want = got[len(got)-1:], [][2]int{{12768 % 258, 20000}}
			if next := matchesOf(c.data, 32768, 32800); len(next) != 1 || next[0] != [2]int{32, 20000} {
				t.Errorf("across pieces: %v", next)
			}
		}
		if !slices.Equal(got, c.want) {
			t.Errorf("%s: %v, want %v", c.what, got, c.want)
		}
		holdDeflate(t, c.what, c.data)
	}
}

// Of matches of seven bytes the nearest is taken, whatever stands behind them.
func TestDeflateSevenBytes(t *testing.T) {
	for k := range 256 {
		var data []byte
		for _, b := range []byte{0, byte(k), 21, byte(k + 55), byte(5 * k), byte(k + 144)} {
			data = append(append(data, "abcdefg"...), b)
		}
		holdDeflate(t, "seven bytes", data)
	}
}

// Of forms with equally many bits the first is taken.
func TestDeflateTies(t *testing.T) {
	high := make([]byte, 32)
	for i := range high {
		high[i] = byte(150 + 3*i)
	}
	even := noise(527, 227)
	for i, x := range even {
		if x < 227 {
			even[i] = x &^ 1
		}
	}
	few := []byte{0, 10, 1, 2, 0, 14, 15, 14, 0, 2, 30, 9, 10, 9, 13, 1, 13, 3, 0, 16, 0, 4, 5, 13, 19, 2, 39, 1, 4, 7, 6, 11, 3, 6, 1, 1, 0, 6, 5}
	for _, c := range []struct {
		what      string
		data      []byte
		one, two  int
		kind      byte
		different int // the bits of one less those of the other
	}{
		{"fixed by one bit", high[:29], 0, 1, 1, 1},
		{"stored and fixed", high[:30], 0, 1, 0, 0},
		{"stored by one bit", high[:31], 0, 1, 0, -1},
		{"stored and dynamic", even, 0, 2, 0, 0},
		{"fixed and dynamic", few, 1, 2, 1, 0},
	} {
		b := holdDeflate(t, c.what, c.data)[0]
		if d := len(b.forms[c.one]) - len(b.forms[c.two]); d != c.different {
			t.Errorf("%s: differ by %d bits", c.what, d)
		}
		if kind := Deflate(c.data)[0] >> 1 & 3; kind != c.kind {
			t.Errorf("%s: kind %d", c.what, kind)
		}
	}
}

// The padding of a stored block counts, and it hangs on where the block begins.
func TestDeflatePadding(t *testing.T) {
	seen := map[int]bool{}
	for n := range 25 {
		text := slices.Concat(quick(32768-n), noise(n, 3))
		data := slices.Concat(text, noise(400, uint32(n)))
		blocks := holdDeflate(t, "padding", data)
		seen[len(blocks[1].forms[0])-8*400-32] = true
	}
	if len(seen) != 8 {
		t.Errorf("only %d paddings", len(seen))
	}
}

// fibonacci is noise, and behind it a piece of matches whose lengths and distances have symbols that come ever more often, so that their codes are deeper than they may be.
func fibonacci(symbols int) []byte {
	seed := uint32(1)
	dice := func(n int) int {
		seed = seed*1664525 + 1013904223
		return int(seed>>8) % n
	}
	var kinds []int
	for k, a, b := 0, 1, 2; k < symbols; k, a, b = k+1, b, a+b {
		kinds = append(kinds, slices.Repeat([]int{k}, a)...)
	}
	for i := range kinds {
		j := i + dice(len(kinds)-i)
		kinds[i], kinds[j] = kinds[j], kinds[i]
	}
	data := noise(32768, 11)
	last := data[:0]
	for i := 0; i < len(kinds); {
		length, _ := plainLength(257 + symbols - 1 - kinds[i])
		far, bits := plainDistance(30 - symbols + kinds[i])
		from := len(data) - far - dice(1<<bits)
		match := data[from : from+length]
		longer := slices.Concat(last, match[:1])
		if bytes.LastIndex(data, match) == from && (i == 0 || !bytes.Contains(data, longer)) { // the nearest, and behind one that can't go on
			data = append(data, match...)
			last = match
			i++
		}
	}
	return data
}

func TestDeflateDeepCodes(t *testing.T) {
	for _, c := range []struct{ symbols, literalHalves, farHalves int }{{15, 0, 0}, {16, 1, 0}, {17, 1, 1}} { // the block's end is one literal symbol more
		b := holdDeflate(t, "deep codes", fibonacci(c.symbols))[1]
		if b.literalHalves != c.literalHalves || b.farHalves != c.farHalves {
			t.Errorf("%d symbols: counts were halved %d and %d times", c.symbols, b.literalHalves, b.farHalves)
		}
	}
	// Literals whose lengths make the length code deeper than it may be.
	lengths := []int{
		11, 8, 11, 8, 11, 5, 8, 11, 11, 6, 5, 11, 11, 4, 5, 8, 11, 11, 11, 5, 7, 5, 11, 5, 11, 11, 11, 5, 11, 5, 8, 7, 10, 5, 5, 11, 11, 5, 5, 8, 8, 9, 8, 5, 11,
		11, 5, 5, 11, 11, 8, 11, 8, 11, 11, 5, 5, 11, 8, 10, 5, 11, 11, 4, 11, 8, 11, 10, 10, 11, 9, 11, 11, 10, 11, 10, 11, 7, 4, 9, 8, 5, 10, 5, 8, 5, 5, 11, 10,
	}
	counts := make([]int, len(lengths))
	for symbol, n := range lengths {
		counts[symbol] = 1 << (11 - n)
	}
	b := holdDeflate(t, "a deep length code", unlike(counts))[0]
	if b.shortCut == 0 || len(b.forms[2]) >= len(b.forms[0]) {
		t.Errorf("counts were halved %d times", b.shortCut)
	}
}

// unlike lays down each byte as often as told, no three of them twice.
func unlike(counts []int) []byte {
	all := 0
	for _, n := range counts {
		all += n
	}
	for seed := uint32(1); ; seed++ {
		left, dice := slices.Clone(counts), noise(all*100, seed)
		seen := map[string]bool{}
		var out []byte
		for _, x := range dice {
			symbol := heaviest(left, int(x))
			next := string(append(out[max(0, len(out)-2):len(out):len(out)], byte(symbol)))
			if left[symbol] > 0 && !seen[next] {
				seen[next] = true
				left[symbol]--
				out = append(out, byte(symbol))
			}
		}
		if len(out) == all {
			return out
		}
	}
}

// heaviest is the symbol behind a part, of 256 parts, of what is left.
func heaviest(left []int, part int) int {
	all := 0
	for _, n := range left {
		all += n
	}
	part = part * all / 256
	for symbol, n := range left {
		if part < n {
			return symbol
		}
		part -= n
	}
	return 0
}

func TestLengthsOfCounts(t *testing.T) {
	for seed := range uint32(2000) {
		dice := noise(400, seed)
		counts := make([]int, 1+int(dice[0])%40)
		for k := range counts {
			counts[k] = int(dice[1+k]) >> (dice[100+k] % 9) << (dice[200+k] % 3)
			if dice[300]%2 == 0 && k > 1 { // the deepest trees
				counts[k] = (counts[k-1] + counts[k-2]) % 100000
			}
		}
		for _, most := range []int{7, 15} {
			want, _ := plainLengths(counts, most)
			before := slices.Clone(counts)
			got := lengthsOf(counts, most)
			if !slices.Equal(counts, before) {
				t.Fatalf("lengths at most %d of %v: now %v", most, before, counts)
			}
			for symbol, n := range got {
				if int(n) != want[symbol] {
					t.Fatalf("lengths at most %d of %v: %v, want %v", most, counts, got, want)
				}
			}
		}
	}
}

// Each form comes out as told, taken or not; so does the dynamic one of a piece of no bytes.
func TestDynamicForm(t *testing.T) {
	for _, data := range [][]byte{nil, []byte("a"), quick(500), skewed(3000, 1), noise(3000, 1), make([]byte, 3000), fewBytes(2000, 2, 3), bytes.Repeat(noise(300, 1), 3)} {
		tokens := newFinder(data).tokens(nil, 0, len(data))
		tally := countTokens(tokens)
		p := planDynamic(&tally)
		var w bitWriter
		w.head(kindDynamic, false)
		w.plan(&p)
		w.tokens(tokens, &p.books)
		want := "0" + plainPiece(data, plainPlaces(data), 0, len(data), 0).forms[2]
		if n := w.bits(); n != len(want) || n != 3+p.bits()+tally.bits(&p.books) {
			t.Errorf("%d bytes: %d bits, want %d, told %d", len(data), n, len(want), 3+p.bits()+tally.bits(&p.books))
		}
		w.skip()
		if !bytes.Equal(w.out, bytesOf(want)) {
			t.Errorf("%d bytes: %x, want %x", len(data), w.out, bytesOf(want))
		}
	}
}

func TestListLengths(t *testing.T) {
	hold := func(lengths []uint8) {
		t.Helper()
		plain := make([]int, len(lengths))
		for i, n := range lengths {
			plain[i] = int(n)
		}
		got, want := "", ""
		for _, x := range listLengths(lengths) {
			got += strconv.Itoa(int(x.symbol)) + ":" + numberBits(int(x.more), furtherBits(int(x.symbol))) + " "
		}
		for _, x := range plainList(plain) {
			want += strconv.Itoa(x.symbol) + ":" + x.bits + " "
		}
		if got != want {
			t.Fatalf("%v: %s, want %s", lengths, got, want)
		}
	}
	for run := range 300 {
		for _, v := range []uint8{0, 1, 15} {
			hold(slices.Concat(slices.Repeat([]uint8{v}, run), []uint8{3, 3}, slices.Repeat([]uint8{v}, run%20)))
		}
	}
	for seed := range uint32(300) {
		hold(fewBytes(100, 2, seed))
		hold(fewBytes(100, 16, seed))
	}
}

func TestShortLengths(t *testing.T) {
	for _, c := range []struct {
		list []listed
		want []int
	}{
		{[]listed{{symbol: 5}, {symbol: 5}}, lengthList(19, 0, 1, 5, 1)},
		{[]listed{{symbol: 18}}, lengthList(19, 0, 1, 18, 1)},
		{[]listed{{symbol: 0}}, lengthList(19, 0, 1, 1, 1)},
		{[]listed{{symbol: 3}, {symbol: 4}, {symbol: 4}}, lengthList(19, 3, 1, 4, 1)},
	} {
		got := shortLengths(c.list)
		for symbol, n := range got {
			if int(n) != c.want[symbol] {
				t.Errorf("%v: %v, want %v", c.list, got, c.want)
				break
			}
		}
	}
}

func TestDeflateMaxArk(t *testing.T) {
	wild := noise(api.MaxArk, 6)
	for _, data := range [][]byte{make([]byte, api.MaxArk), wild, quick(api.MaxArk), skewed(api.MaxArk, 1)} {
		z := Deflate(data)
		if len(z) == 0 {
			t.Fatal("no bytes of MaxArk bytes")
		}
		checkBack(t, "MaxArk bytes", data, z)
		if z := Gzip(data); len(z) == 0 {
			t.Fatal("no bytes of MaxArk bytes")
		} else {
			out, e, at := Gunzip(z, len(data))
			check(t, "MaxArk bytes", out, e, at, data, api.OK, 0)
		}
	}
	if n := len(Deflate(wild)); n != api.MaxArk+5*32 {
		t.Errorf("noise: %d bytes", n)
	}
	for _, n := range []int{1, 2, 1 << 20} {
		if a, b := Deflate(make([]byte, api.MaxArk+n)), Gzip(make([]byte, api.MaxArk+n)); len(a) != 0 || len(b) != 0 {
			t.Errorf("%d bytes too many: %d and %d bytes", n, len(a), len(b))
		}
	}
}

// roomy is data with room behind it that must stay as it is.
func roomy(data []byte) []byte {
	all := append(slices.Clone(data), bytes.Repeat([]byte{0xa5}, 100)...)
	return all[:len(data)]
}

// What is handed in and the room behind it stay as they were, and what is handed out is new: it may be spoilt.
func TestMemory(t *testing.T) {
	text := quick(40000)
	for _, c := range []struct {
		what string
		in   []byte
		call func([]byte) []byte
	}{
		{"Deflate", text, Deflate},
		{"Deflate of noise", noise(40000, 1), Deflate},
		{"Gzip", text, Gzip},
		{"Inflate", Deflate(text), func(b []byte) []byte { out, _, _ := Inflate(b, 40000); return out }},
		{"Inflate of stored blocks", Deflate(noise(40000, 1)), func(b []byte) []byte { out, _, _ := Inflate(b, 40000); return out }},
		{"Gunzip", slices.Concat(Gzip(text), Gzip(text)), func(b []byte) []byte { out, _, _ := Gunzip(b, 80000); return out }},
		{"Crc", text, func(b []byte) []byte { return []byte{byte(Crc(b))} }},
	} {
		in := roomy(c.in)
		before := slices.Clone(in[:cap(in)])
		first := c.call(in)
		kept := slices.Clone(first)
		if len(first) == 0 || !bytes.Equal(in[:cap(in)], before) {
			t.Errorf("%s changes what it is handed", c.what)
		}
		second := c.call(in)
		spoil(first[:cap(first)])
		if !bytes.Equal(in[:cap(in)], before) || !bytes.Equal(second, kept) || !bytes.Equal(c.call(in), kept) {
			t.Errorf("%s hands out what is not new", c.what)
		}
	}
}
