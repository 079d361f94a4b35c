package wire

import (
	"math"
	"math/rand/v2"
	"strings"
	"testing"

	"graft/api"
)

// known is bytes by the last of which it is known what is wrong with them.
type known struct {
	data string
	e    api.Errno
	at   int
}

// wrongWords is what may be wrong with a word of Text or Data that stands behind some bytes.
func wrongWords(ahead string) []known {
	at := len(ahead)
	var out []known
	for _, n := range []int{-1, -8, math.MinInt, api.MaxWord + 1, 1 << 32, 1<<32 + 1, math.MaxInt} {
		out = append(out, known{ahead + number(n), api.ErrLong, at})
	}
	return append(out, wrongPadding(ahead, "")...)
}

// wrongPadding is each byte of padding turned, of words that begin so.
func wrongPadding(ahead, begin string) []known {
	var out []known
	for n := range 17 {
		bytes := begin + strings.Repeat("w", n)
		for k := range (8 - len(bytes)%8) % 8 {
			for _, by := range []string{"\x01", "\x80", "\xff", "0"} {
				data := ahead + number(len(bytes)) + bytes + zeros(k)
				out = append(out, known{data + by, api.ErrPadding, len(data)})
			}
		}
	}
	return out
}

// wrongLabels is what may be wrong with a number of labels, and with labels, that stand behind some bytes.
func wrongLabels(ahead string) []known {
	at := len(ahead)
	var out []known
	for _, n := range []int{-1, math.MinInt, 4097, 1 << 32, math.MaxInt} {
		out = append(out, known{ahead + number(n), api.ErrLong, at})
	}
	for _, before := range []string{number(4096), number(2) + word(textOf(la)), number(3) + word(textOf(lb)) + word(textOf(longest))} {
		at := at + len(before)
		for _, n := range []int{-1, math.MinInt, 258, 1 << 32, math.MaxInt} {
			out = append(out, known{ahead + before + number(n), api.ErrLong, at})
		}
		for _, s := range []string{"", "x", "/graft/store/", textOf(la)[:46], textOf(la)[:47] + "/", textOf(la) + " ", textOf(longest)[:256] + "/", strings.Replace(textOf(la), "g", "G", 1), textOf(la)[13:]} {
			out = append(out, known{ahead + before + number(len(s)) + s, api.ErrWire, at})
		}
		out = append(out, wrongPadding(ahead+before, textOf(la))...)
	}
	return out
}

// wrongAsks is each thing that may be wrong with a request.
func wrongAsks() []known {
	var out []known
	for _, op := range []int{0, 12, 13, -1, 1 << 32, 9 + 1<<32, 1<<63 - 1, math.MinInt, math.MinInt + 9} {
		out = append(out, known{number(op), api.ErrVoid, 0})
	}
	for op := 1; op <= 11; op++ {
		fields := plainFields[op]
		has := func(field byte) bool { return strings.IndexByte(fields, field) >= 0 }
		wrong := func(field byte, ahead string, numbers ...int) {
			for _, n := range numbers {
				if !has(field) {
					out = append(out, known{ahead + number(n), api.ErrWire, len(ahead)})
				}
			}
		}
		out = append(out, known{number(op) + number(-1), api.ErrLong, 8}, known{number(op) + number(4097), api.ErrLong, 8})
		wrong('L', number(op), 1, 256, 4096)
		if has('L') {
			out = append(out, wrongLabels(number(op))...)
		}
		ahead := number(op) + number(0)
		if has('L') {
			ahead = number(op) + number(2) + word(textOf(la)) + word(textOf(longest))
		}
		out = append(out, known{ahead + number(-1), api.ErrLong, len(ahead)}, known{ahead + number(api.MaxWord+1), api.ErrLong, len(ahead)})
		wrong('T', ahead, 1, 256, api.MaxWord)
		if has('T') {
			out = append(out, wrongWords(ahead)...)
			ahead += word("text")
		} else {
			ahead += number(0)
		}
		out = append(out, known{ahead + number(-1), api.ErrLong, len(ahead)}, known{ahead + number(api.MaxWord+1), api.ErrLong, len(ahead)})
		wrong('D', ahead, 1, 256, api.MaxWord)
		if has('D') {
			out = append(out, wrongWords(ahead)...)
			ahead += word("data, and more")
		} else {
			ahead += number(0)
		}
		wrong('N', ahead, 1, 256, -1, 1<<56, math.MinInt, math.MaxInt)
	}
	return out
}

// wrongSays is each thing that may be wrong with an answer.
func wrongSays() []known {
	var out []known
	for _, err := range []int{0, 12, 161, -1, math.MinInt} {
		out = append(out, wrongLabels(number(err))...)
		out = append(out, wrongWords(number(err)+number(0))...)
		out = append(out, wrongWords(number(err)+number(1)+word(textOf(longest))+word("text"))...)
	}
	return out
}

// Behind the bytes by which an error is known anything may stand, what would be another error too.
var behind = []string{"", "\x00", "\xff", zeros(100), strings.Repeat("\xff", 100), number(1) + number(-1)}

func TestDecodeErrors(t *testing.T) {
	list := wrongAsks()
	if len(list) < 500 {
		t.Fatalf("only %d", len(list))
	}
	for _, x := range list {
		for _, more := range behind {
			if a, e, at := Decode([]byte(x.data + more)); !emptyAsk(a) || e != x.e || at != x.at {
				t.Fatalf("P16.2: Decode(%s) = %s, %d, %d, want %d, %d", brief(x.data+more), showAsk(a), e, at, x.e, x.at)
			}
		}
		for k := range len(x.data) {
			if a, e, at := Decode([]byte(x.data[:k])); !emptyAsk(a) || e != api.ErrShort || at != k {
				t.Fatalf("P16.2: Decode of %d bytes of %s = %s, %d, %d", k, brief(x.data), showAsk(a), e, at)
			}
		}
	}
}

func TestDecodeSayErrors(t *testing.T) {
	for _, x := range wrongSays() {
		for _, more := range behind {
			if a, e, at := DecodeSay([]byte(x.data + more)); !emptySay(a) || e != x.e || at != x.at {
				t.Fatalf("P16.2: DecodeSay(%s) = %s, %d, %d, want %d, %d", brief(x.data+more), showSay(a), e, at, x.e, x.at)
			}
		}
		for k := range len(x.data) {
			if a, e, at := DecodeSay([]byte(x.data[:k])); !emptySay(a) || e != api.ErrShort || at != k {
				t.Fatalf("P16.2: DecodeSay of %d bytes of %s = %s, %d, %d", k, brief(x.data), showSay(a), e, at)
			}
		}
	}
}

// Where one and the same number is wrong in two ways, and where two things are: the first of them.
func TestDecodeTwoErrors(t *testing.T) {
	short := number(3) + number(1) + word(textOf(la))
	for _, x := range []known{
		{number(12) + number(-1), api.ErrVoid, 0}, {number(0) + number(4097), api.ErrVoid, 0},
		{number(9) + number(-1), api.ErrLong, 8}, {number(9) + number(4097), api.ErrLong, 8}, {number(9) + number(4096) + number(-1), api.ErrWire, 8},
		{number(9) + number(0) + number(-1), api.ErrLong, 16}, {number(9) + number(0) + number(api.MaxWord+1), api.ErrLong, 16}, {number(9) + number(0) + number(1) + "x\x01", api.ErrWire, 16},
		{number(5) + number(0) + number(0) + number(-1), api.ErrLong, 24}, {number(5) + number(0) + number(0) + number(api.MaxWord+1), api.ErrLong, 24},
		{number(6) + number(1) + number(2) + "xy\x01", api.ErrWire, 16}, {number(6) + number(1) + number(258) + strings.Repeat("x", 300), api.ErrLong, 16},
		{number(6) + number(2) + number(47) + textOf(la) + "\x01" + number(-1), api.ErrPadding, 71},
		{short + number(2) + "hi\x00\x01\x02\x00\x00\x00" + number(-1), api.ErrPadding, len(short) + 11}, {short + word("hi") + number(-1), api.ErrLong, len(short) + 16},
		{short + word("hi") + number(1) + "d\x00\x00\x00\x00\x00\x00\x07" + number(1), api.ErrPadding, len(short) + 16 + 15}, {short + word("hi") + word("d") + number(1), api.ErrWire, len(short) + 32},
	} {
		if _, e, at := Decode([]byte(x.data)); e != x.e || at != x.at {
			t.Errorf("P16.2: Decode(%q) = %d, %d, want %d, %d", x.data, e, at, x.e, x.at)
		}
	}
}

// Every beginning of a message is short; whatever stands behind it isn't looked at.
func TestDecodeBeginnings(t *testing.T) {
	for op := range plainFields {
		for _, a := range []api.Ask{{Op: op}, fullAsk(op)} {
			data, _ := plainEncode(a, true)
			for k := range len(data) {
				if b, e, at := Decode([]byte(data[:k])); !emptyAsk(b) || e != api.ErrShort || at != k {
					t.Errorf("P16.2: Decode of %d bytes of %q = %s, %d, %d", k, data, showAsk(b), e, at)
				}
			}
			for _, more := range behind {
				if b, e, n := Decode([]byte(data + more)); showAsk(b) != showAsk(a) || e != api.OK || n != len(data) {
					t.Errorf("P16.2: Decode(%q) = %s, %d, %d", data+more, showAsk(b), e, n)
				}
			}
		}
	}
	a := api.Say{Err: -7, Labels: []api.Label{longest, la}, Text: "a text", Data: []byte("some data"), Number: math.MinInt}
	data, _ := plainEncodeSay(a)
	for k := range len(data) {
		if b, e, at := DecodeSay([]byte(data[:k])); !emptySay(b) || e != api.ErrShort || at != k {
			t.Errorf("P16.2: DecodeSay of %d bytes of %q = %s, %d, %d", k, data, showSay(b), e, at)
		}
	}
	for _, more := range behind {
		if b, e, n := DecodeSay([]byte(data + more)); showSay(b) != showSay(a) || e != api.OK || n != len(data) {
			t.Errorf("P16.2: DecodeSay(%q) = %s, %d, %d", data+more, showSay(b), e, n)
		}
	}
}

// Words of each length, a multiple of eight or not, come back as they are.
func TestDecodeWords(t *testing.T) {
	for n := range 40 {
		for _, by := range []string{"\x00", "x", "\xff"} {
			a := api.Ask{Op: api.OpText, Labels: []api.Label{numbered(n, strings.Repeat("l", n+1))}, Text: strings.Repeat(by, n), Data: []byte(strings.Repeat(by, 39-n))}
			data, _ := plainEncode(a, true)
			if b, e, at := Decode([]byte(data)); showAsk(b) != showAsk(a) || e != api.OK || at != len(data) {
				t.Errorf("P16.2: Decode(%q) = %s, %d, %d", data, showAsk(b), e, at)
			}
		}
	}
}

func randomLabels(source *rand.Rand) []api.Label {
	var out []api.Label
	for range pick(source, 0, 0, 1, 1, 2, 5) {
		out = append(out, pick(source, la, lb, longest, numbered(source.IntN(50), strings.Repeat("n", 1+source.IntN(20)))))
	}
	return out
}

func randomText(source *rand.Rand) string {
	out := make([]byte, pick(source, 0, 0, 1, 2, 7, 8, 9, 16, 30))
	for i := range out {
		out[i] = byte(source.IntN(256))
	}
	return string(out)
}

func randomAsk(source *rand.Rand) api.Ask {
	a := api.Ask{Op: 1 + source.IntN(11)}
	for _, field := range plainFields[a.Op] {
		switch field {
		case 'L':
			a.Labels = randomLabels(source)
		case 'T':
			a.Text = randomText(source)
		case 'D':
			a.Data = []byte(randomText(source))
		case 'N':
			a.Number = pick(source, 0, 1, -1, source.Int())
		}
	}
	return a
}

// spoil changes bytes a little, so that they may still be a message.
func spoil(source *rand.Rand, data string) string {
	b := []byte(data)
	for range source.IntN(3) {
		at := source.IntN(len(b))
		if source.IntN(2) == 0 {
			at -= at % 8
		}
		switch source.IntN(5) {
		case 0:
			b[at] = byte(source.IntN(256))
		case 1:
			b[at] ^= 1 << source.IntN(8)
		case 2:
			b = append(b[:at], append([]byte(number(pick(source, 0, 1, 2, -1, 258))), b[at:]...)...)
		case 3:
			b = append(b[:at], b[min(at+8, len(b)):]...)
		case 4:
			b = b[:at]
		}
		if len(b) == 0 {
			break
		}
	}
	return string(b)
}

// Decode and DecodeSay answer what the plain reading says, and what they take is what is laid down for it.
func TestDecodeByChance(t *testing.T) {
	source := sourceOf(1)
	taken := 0
	for range 60000 {
		a := randomAsk(source)
		data, _ := plainEncode(a, true)
		data = spoil(source, data)
		want, f, m := plainDecode(data, true)
		got, e, n := Decode([]byte(data))
		if showAsk(got) != showAsk(want) || e != f || n != m {
			t.Fatalf("P16.2: Decode(%q) = %s, %d, %d, want %s, %d, %d", data, showAsk(got), e, n, showAsk(want), f, m)
		}
		if e == api.OK {
			taken++
			encodes(t, got, data[:n])
		}
		said, f, m := plainDecodeSay(data)
		say, e, n := DecodeSay([]byte(data))
		if showSay(say) != showSay(said) && f == api.OK || e != f || n != m || f != api.OK && !emptySay(say) {
			t.Fatalf("P16.2: DecodeSay(%q) = %s, %d, %d, want %s, %d, %d", data, showSay(say), e, n, showSay(said), f, m)
		}
		if e == api.OK {
			if b, e := EncodeSay(say); string(b) != data[:n] || e != api.OK {
				t.Fatalf("P16.2: EncodeSay(%s) = %q, %d, want %q", showSay(say), b, e, data[:n])
			}
		}
	}
	if taken < 10000 || taken > 50000 {
		t.Errorf("%d were taken", taken)
	}
}
