package press

import (
	"bytes"
	"math"
	"slices"
	"strings"
	"testing"

	"graft/api"
)

// moment is what a plain reader says when so many bytes of a stream have come.
type moment struct {
	out  []byte // what is decided
	e    api.Errno
	at   int
	ends bool
}

// momentsOf is a stream's moments from no bytes on, up to the first at which something is wrong.
func momentsOf(data []byte, limit int) []moment {
	var out []moment
	for n := 0; n <= len(data); n++ {
		decided, f, size := plainRead(data[:n], limit)
		m := moment{decided, f.e, f.at, f.e == api.OK}
		if f.e == api.ErrShort {
			m.e, m.at = api.OK, 0
		}
		if f.e == api.OK && size < n {
			m.e, m.at = api.ErrTail, size
		}
		out = append(out, m)
		if m.e != api.OK {
			return out
		}
	}
	return out
}

// feedAll feeds a stream in pieces whose sizes are told by a function, and holds each answer against the moments.
func feedAll(t *testing.T, data []byte, limit int, moments []moment, size func(turn int) int) {
	t.Helper()
	f, e := NewInflater(limit)
	if e != api.OK {
		t.Fatalf("NewInflater(%d): %d", limit, e)
	}
	answered, came := 0, 0
	for turn := 0; came < len(data); turn++ {
		n := min(size(turn), len(data)-came)
		out, e, at := f.Feed(data[came : came+n : came+n])
		came += n
		m := moments[min(came, len(moments)-1)]
		if m.e != api.OK {
			check(t, "Feed", out, e, at, nil, m.e, m.at)
			checkDone(t, f)
			return
		}
		check(t, "Feed", out, e, at, m.out[answered:], api.OK, 0)
		answered = len(m.out)
	}
	wantE, wantAt := api.OK, 0
	if !moments[len(moments)-1].ends {
		wantE, wantAt = api.ErrShort, len(data)
	}
	if e, at := f.Close(); e != wantE || at != wantAt {
		t.Fatalf("Close: %d, %d, want %d, %d", e, at, wantE, wantAt)
	}
	checkDone(t, f)
}

var tooLong = make([]byte, api.MaxPress+1)

// checkDone says that nothing more comes out of an inflater.
func checkDone(t *testing.T, f *Inflater) {
	t.Helper()
	for _, p := range [][]byte{nil, {3, 0}, tooLong} {
		out, e, at := f.Feed(p)
		check(t, "Feed of one that is done", out, e, at, nil, api.ErrDone, 0)
	}
	for range 2 {
		if e, at := f.Close(); e != api.ErrDone || at != 0 {
			t.Fatalf("Close of one that is done: %d, %d", e, at)
		}
	}
}

func TestFeedPieces(t *testing.T) {
	for _, data := range streams() {
		for _, limit := range []int{9999, 50, 0} {
			moments := momentsOf(data, limit)
			for n := 1; n <= len(data)+1; n++ {
				feedAll(t, data, limit, moments, func(int) int { return n })
			}
			feedAll(t, data, limit, moments, func(turn int) int { return turn % 3 }) // empty ones among them
		}
		more := append(slices.Clone(data), 1, 2)
		moments := momentsOf(more, 9999)
		for n := 1; n <= len(more); n++ {
			feedAll(t, more, 9999, moments, func(int) int { return n })
		}
		for n := range data { // cut short
			feedAll(t, data[:n], 9999, moments[:n+1], func(int) int { return 1 })
		}
	}
}

// An error comes with the byte that brings the bit by which it is known, whatever is turned.
func TestFeedTurned(t *testing.T) {
	for _, data := range streams() {
		if len(data) > 80 {
			continue
		}
		for bit := range 8 * len(data) {
			b := slices.Clone(data)
			b[bit/8] ^= 1 << (bit % 8)
			moments := momentsOf(b, 300)
			feedAll(t, b, 300, moments, func(int) int { return 1 })
			feedAll(t, b, 300, moments, func(turn int) int { return turn % 7 })
		}
	}
}

// What was decided ahead of an error in the same Feed is lost; what an earlier one answered is not.
func TestFeedLost(t *testing.T) {
	bits := blockBits(lastBlock, 1) + fixedWord('a') + fixedWord('b') + fixedWord('c') + fixedWord(286)
	data := bytesOf(bits)
	f, _ := NewInflater(9)
	out, e, at := f.Feed(data[:3])
	check(t, "two literals", out, e, at, []byte("ab"), api.OK, 0)
	out, e, at = f.Feed(data[3:])
	check(t, "a literal and a fault", out, e, at, nil, api.ErrSymbol, 4)
	checkDone(t, f)
}

// Matches reach as far back as they may, over pieces of any size, whatever becomes of what was fed and answered.
func TestFeedReach(t *testing.T) {
	past := noise(32768, 1)
	data := slices.Concat(past, past, []byte("x"), past[:1000], quick(3000), past[:500])
	for _, z := range [][]byte{packed(data, 9), Deflate(data)} {
		for _, size := range []int{1, 2, 1000, 32767, 32768, 32769, 50000, len(z)} {
			f, _ := NewInflater(len(data))
			var got []byte
			for p := range slices.Chunk(slices.Clone(z), size) {
				out, e, _ := f.Feed(p)
				if e != api.OK {
					t.Fatalf("pieces of %d: %d", size, e)
				}
				got = append(got, out...)
				spoil(p)
				spoil(out[:cap(out)])
			}
			if e, at := f.Close(); e != api.OK || at != 0 || !bytes.Equal(got, data) {
				t.Fatalf("pieces of %d: %d, %d, %d bytes", size, e, at, len(got))
			}
		}
	}
	// A match as far back as the reach, where each byte of output was answered alone.
	head := append([]byte{0, 0x00, 0x80, 0xff, 0x7f}, past...)
	tail := bytesOf(blockBits(lastBlock, 1) + fixedMatch(258, 32768) + fixedMatch(258, 32768) + fixedMatch(3, 1) + fixedWord(256))
	f, _ := NewInflater(40000)
	for _, b := range head {
		f.Feed([]byte{b})
	}
	out, e, at := f.Feed(tail)
	want := slices.Concat(past[:516], bytes.Repeat(past[515:516], 3))
	check(t, "the reach", out, e, at, want, api.OK, 0)
}

func spoil(b []byte) {
	for i := range b {
		b[i] = ^b[i]
	}
}

func TestNewInflater(t *testing.T) {
	for _, limit := range []int{math.MinInt, -1, api.MaxPress + 1, math.MaxInt} {
		if f, e := NewInflater(limit); f != nil || e != api.ErrArg {
			t.Errorf("NewInflater(%d): %v, %d", limit, f, e)
		}
	}
	for _, limit := range []int{0, 1, api.MaxPress} {
		f, e := NewInflater(limit)
		if f == nil || e != api.OK {
			t.Fatalf("NewInflater(%d): %v, %d", limit, f, e)
		}
		if e, at := f.Close(); e != api.ErrShort || at != 0 {
			t.Errorf("Close of nothing: %d, %d", e, at)
		}
	}
}

func TestFeedMaxPress(t *testing.T) {
	data, out := storedStream(api.MaxPress)
	fed := func(data []byte) *Inflater {
		f, _ := NewInflater(api.MaxPress)
		n := 0
		for p := range slices.Chunk(data, 99991) {
			made, e, at := f.Feed(p)
			if e != api.OK || !bytes.Equal(made, out[n:n+len(made)]) {
				t.Fatalf("MaxPress bytes: %d, %d", e, at)
			}
			n += len(made)
		}
		return f
	}
	f := fed(data)
	if e, at := f.Close(); e != api.OK || at != 0 {
		t.Errorf("MaxPress bytes: %d, %d", e, at)
	}
	for _, f := range []*Inflater{fed(data), fed(data[:api.MaxPress-1]), fed(data[:3]), fed(nil)} { // ended, or not: the length is asked for first
		made, e, at := f.Feed(append(data, 7)[:api.MaxPress-f.came+1])
		check(t, "one more", made, e, at, nil, api.ErrLong, 0)
		checkDone(t, f)
	}
	made, e, at := fed(data).Feed(nil)
	check(t, "nothing more", made, e, at, nil, api.OK, 0)
}

func TestFeedNothing(t *testing.T) {
	f, _ := NewInflater(1)
	for _, b := range []byte{0x4b, 0x04, 0x00} {
		for _, p := range [][]byte{nil, {}} {
			out, e, at := f.Feed(p)
			check(t, "no bytes", out, e, at, nil, api.OK, 0)
		}
		f.Feed([]byte{b})
	}
	out, e, at := f.Feed(nil)
	check(t, "no bytes behind the end", out, e, at, nil, api.OK, 0)
	out, e, at = f.Feed([]byte{0})
	check(t, "a byte behind the end", out, e, at, nil, api.ErrTail, 3)
	checkDone(t, f)
}

func TestNilInflater(t *testing.T) {
	var f *Inflater
	for _, p := range [][]byte{nil, {7}, tooLong} {
		out, e, at := f.Feed(p)
		check(t, "a nil Inflater", out, e, at, nil, api.OK, 0)
	}
	for range 2 {
		if e, at := f.Close(); e != api.OK || at != 0 {
			t.Errorf("Close of a nil Inflater: %d, %d", e, at)
		}
	}
}

// One that no call made must not panic.
func TestPlainInflater(t *testing.T) {
	for _, data := range streams() {
		var f Inflater
		f.Feed(data)
		f.Close()
	}
}

// Two inflaters have nothing in common, and two that are fed alike answer alike.
func TestSeveralInflaters(t *testing.T) {
	texts := [][]byte{quick(5000), skewed(5000, 8), fewBytes(5000, 3, 1), quick(5000)}
	var all []*Inflater
	var data [][]byte
	for _, text := range texts {
		f, _ := NewInflater(len(text))
		all = append(all, f)
		data = append(data, Deflate(text))
	}
	got := make([][]byte, len(all))
	for turn := range 6000 {
		for k, f := range all {
			if turn < len(data[k]) {
				out, _, _ := f.Feed(data[k][turn : turn+1])
				got[k] = append(got[k], out...)
			}
		}
	}
	for k, f := range all {
		if e, _ := f.Close(); e != api.OK || !bytes.Equal(got[k], texts[k]) {
			t.Errorf("the inflater %d: %d, %d bytes", k, e, len(got[k]))
		}
	}
}

// Between two calls there is no more than the next one needs.
func TestFeedKeeps(t *testing.T) {
	data := bytesOf(blockBits(lastBlock, 1) + fixedWord('a') + fixedWord('b') + fixedWord(256))
	f, _ := NewInflater(9)
	f.Feed(data[:2])
	if f.stream.out != nil || f.stream.bits.piece != nil || len(f.stream.past.ring) != reach {
		t.Error("in the midst")
	}
	f.Feed(data[2:])
	if f.stream.out != nil || f.stream.bits.piece != nil || f.stream.past.ring != nil {
		t.Error("behind the end")
	}
}

// A stream's bits may be handed in with room behind them, which stays as it was.
func TestFeedMemory(t *testing.T) {
	room := []byte(strings.Repeat("r", 64))
	data := Deflate(quick(200))
	b := slices.Concat(data, room)
	f, _ := NewInflater(300)
	for k := range data {
		f.Feed(b[k : k+1])
	}
	f.Close()
	if !bytes.Equal(b, slices.Concat(data, room)) {
		t.Error("Feed writes into what it is handed")
	}
}
