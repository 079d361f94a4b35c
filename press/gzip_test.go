package press

import (
	"bytes"
	"compress/gzip"
	"hash/crc32"
	"io"
	"math"
	"slices"
	"testing"
	"time"

	"graft/api"
)

func TestCrc(t *testing.T) {
	if n := Crc([]byte("123456789")); n != 0xcbf43926 {
		t.Errorf("Crc: %x", n)
	}
	if Crc(nil) != 0 || Crc([]byte{}) != 0 {
		t.Error("Crc of no bytes")
	}
	for b := range 256 {
		if got, want := Crc([]byte{byte(b)}), plainCrc([]byte{byte(b)}); got != want {
			t.Errorf("Crc of %x: %x, want %x", b, got, want)
		}
	}
	for n := range 300 {
		data := noise(n*n, uint32(n))
		if got, want := Crc(data), crc32.ChecksumIEEE(data); got != want {
			t.Errorf("Crc of %d bytes: %x, want %x", len(data), got, want)
		}
	}
}

// emptyMember is Gzip of no data.
var emptyMember = []byte{0x1f, 0x8b, 8, 0, 0, 0, 0, 0, 0, 0xff, 3, 0, 0, 0, 0, 0, 0, 0, 0, 0}

func TestGzip(t *testing.T) {
	if got := Gzip(nil); !bytes.Equal(got, emptyMember) {
		t.Errorf("Gzip of no data: %x", got)
	}
	for _, n := range []int{0, 1, 2, 3, 300, 32767, 32768, 32769, 70000} {
		for _, data := range [][]byte{quick(n), noise(n, 3), make([]byte, n)} {
			sum, size := plainCrc(data), len(data)
			want := slices.Concat(emptyMember[:10], Deflate(data),
				[]byte{byte(sum), byte(sum >> 8), byte(sum >> 16), byte(sum >> 24)},
				[]byte{byte(size), byte(size >> 8), byte(size >> 16), byte(size >> 24)})
			z := Gzip(data)
			if !bytes.Equal(z, want) {
				t.Fatalf("Gzip of %d bytes: %d bytes, want %d", n, len(z), len(want))
			}
			for _, limit := range []int{n, api.MaxPress} {
				out, e, at := Gunzip(z, limit)
				check(t, "Gunzip", out, e, at, data, api.OK, 0)
			}
			r, err := gzip.NewReader(bytes.NewReader(z))
			if err != nil {
				t.Fatal(err)
			}
			if out, err := io.ReadAll(r); err != nil || !bytes.Equal(out, data) {
				t.Fatalf("%d bytes read back: %v", n, err)
			}
		}
	}
}

// member is a member with the fields that its flags ask for.
func member(flags byte, data []byte) []byte {
	b := []byte{0x1f, 0x8b, 8, flags, 1, 2, 3, 4, 5, 6}
	if flags&4 != 0 {
		b = append(b, 3, 0, 0, 'x', 'y')
	}
	if flags&8 != 0 {
		b = append(b, "name\x00"...)
	}
	if flags&16 != 0 {
		b = append(b, "\x00"...)
	}
	if flags&2 != 0 {
		sum := plainCrc(b)
		b = append(b, byte(sum), byte(sum>>8))
	}
	return append(b, Gzip(data)[10:]...)
}

func holdGunzip(t *testing.T, what string, data []byte, limit int) api.Errno {
	t.Helper()
	wantOut, wantE, wantAt := plainGunzip(data, limit)
	out, e, at := Gunzip(data, limit)
	check(t, what, out, e, at, wantOut, wantE, wantAt)
	return e
}

// With any of the fields; cut, turned bit by bit, with something behind, and with another member behind.
func TestGunzipFields(t *testing.T) {
	for flags := range byte(32) {
		text := []byte("a text")
		data := member(flags, text)
		out, e, at := Gunzip(data, 6)
		check(t, "a member", out, e, at, text, api.OK, 0)
		for n := range data {
			out, e, at := Gunzip(data[:n:n], 6)
			check(t, "a member that is cut", out, e, at, nil, api.ErrShort, n)
		}
		for bit := range 8 * len(data) {
			b := slices.Clone(data)
			b[bit/8] ^= 1 << (bit % 8)
			holdGunzip(t, "a member with a bit turned", b, 6)
			holdGunzip(t, "a second member with a bit turned", append(slices.Clone(data), b...), 12)
		}
		for other := range byte(32) {
			two := append(slices.Clone(data), member(other, []byte("more"))...)
			out, e, at := Gunzip(two, 10)
			check(t, "two members", out, e, at, []byte("a textmore"), api.OK, 0)
		}
	}
}

func TestGunzipFaults(t *testing.T) {
	full := member(2|4|8|16, []byte("abc"))
	sum := 10 + 5 + 5 + 1
	stream := sum + 2
	end := len(full) - 8
	for _, c := range []struct {
		what string
		turn map[int]byte // what is turned at which places
		cut  int          // how many bytes are taken away
		e    api.Errno
		at   int
	}{
		{"the first byte", map[int]byte{0: 1}, 0, api.ErrMagic, 0},
		{"the first byte and all", map[int]byte{0: 1, 1: 1, 2: 1, 3: 0xe0}, 0, api.ErrMagic, 0},
		{"the second byte", map[int]byte{1: 0x80, 2: 1}, 0, api.ErrMagic, 1},
		{"the method", map[int]byte{2: 1, 3: 0x20}, 0, api.ErrMethod, 2},
		{"bit 5", map[int]byte{3: 0x20, sum: 1}, 0, api.ErrMethod, 3},
		{"bit 6", map[int]byte{3: 0x40}, 0, api.ErrMethod, 3},
		{"bit 7", map[int]byte{3: 0x80}, 0, api.ErrMethod, 3},
		{"bit 7 of what is cut behind", map[int]byte{3: 0x80}, len(full) - 4, api.ErrMethod, 3},
		{"a text's bit", map[int]byte{3: 1}, 0, api.ErrSum, sum},
		{"the time", map[int]byte{4: 1}, 0, api.ErrSum, sum},
		{"the header's sum", map[int]byte{sum: 1}, 0, api.ErrSum, sum},
		{"the header's sum's second byte", map[int]byte{sum + 1: 1, stream: 4}, 0, api.ErrSum, sum},
		{"half of a wrong sum", map[int]byte{sum: 1}, len(full) - sum - 1, api.ErrShort, sum + 1},
		{"the kind of a block", map[int]byte{stream: 4, end: 1}, 0, api.ErrBlock, stream},
		{"the output's sum", map[int]byte{end: 1, end + 4: 1}, 0, api.ErrSum, end},
		{"the output's sum's last byte", map[int]byte{end + 3: 1}, 0, api.ErrSum, end},
		{"the output's sum, and no length", map[int]byte{end + 3: 1}, 4, api.ErrSum, end},
		{"part of a wrong sum", map[int]byte{end: 1}, 5, api.ErrShort, len(full) - 5},
		{"the length", map[int]byte{end + 4: 1}, 0, api.ErrSum, end + 4},
		{"the length's last byte", map[int]byte{end + 7: 1}, 0, api.ErrSum, end + 4},
		{"part of a wrong length", map[int]byte{end + 4: 1}, 1, api.ErrShort, len(full) - 1},
	} {
		b := slices.Clone(full)
		for at, turn := range c.turn {
			b[at] ^= turn
		}
		b = slices.Clip(b[:len(b)-c.cut])
		if c.what == "the kind of a block" && b[stream]&7 != 7 {
			t.Fatalf("%x is not of kind 3", b[stream])
		}
		out, e, at := Gunzip(b, 3)
		check(t, c.what, out, e, at, nil, c.e, c.at)
		// As the second member, all places are so much greater.
		out, e, at = Gunzip(append(slices.Clone(emptyMember), b...), 3)
		check(t, c.what+" behind a member", out, e, at, nil, c.e, len(emptyMember)+c.at)
	}
}

func TestGunzipMembers(t *testing.T) {
	out, e, at := Gunzip(nil, 0)
	check(t, "no bytes", out, e, at, nil, api.ErrShort, 0)
	out, e, at = Gunzip(slices.Concat(emptyMember, emptyMember), 0)
	check(t, "two empty ones", out, e, at, nil, api.OK, 0)
	out, e, at = Gunzip(append(slices.Clone(emptyMember), 0), 0)
	check(t, "a byte 0 behind", out, e, at, nil, api.ErrMagic, 20)
	out, e, at = Gunzip(append(slices.Clone(emptyMember), 0x1f), 0)
	check(t, "a byte 1F behind", out, e, at, nil, api.ErrShort, 21)
	out, e, at = Gunzip(emptyMember[:19:19], 0)
	check(t, "without its last byte", out, e, at, nil, api.ErrShort, 19)
	out, e, at = Gunzip([]byte{0x1f, 0x8b, 8, 0x20, 0, 0}, 0)
	check(t, "a flag", out, e, at, nil, api.ErrMethod, 3)

	one, two := Gzip([]byte("one")), Gzip([]byte("second"))
	three := slices.Concat(one, two, one)
	for limit, want := range map[int]api.Errno{9 + 3: api.OK, 11: api.ErrRoom, 9: api.ErrRoom, 8: api.ErrRoom, 3: api.ErrRoom, 0: api.ErrRoom, -1: api.ErrArg} {
		if e := holdGunzip(t, "three members", three, limit); e != want {
			t.Errorf("limit %d: %d, want %d", limit, e, want)
		}
	}
	// A member's distances don't reach into what others put out.
	far := bytesOf(blockBits(lastBlock, 1) + fixedMatch(3, 1) + fixedWord(256))
	out, e, at = Gunzip(slices.Concat(one, emptyMember[:10], far), 99)
	check(t, "a distance into another member", out, e, at, nil, api.ErrFar, len(one)+10+1)

	many := bytes.Repeat(emptyMember, api.MaxPress/len(emptyMember))
	out, e, at = Gunzip(many, 0)
	check(t, "as many as can be", out, e, at, nil, api.OK, 0)
}

func TestGunzipLimits(t *testing.T) {
	for _, limit := range []int{math.MinInt, -1, api.MaxPress + 1, math.MaxInt} {
		out, e, at := Gunzip(emptyMember, limit)
		check(t, "a limit", out, e, at, nil, api.ErrArg, 0)
		out, e, at = Gunzip([]byte{0}, limit)
		check(t, "a limit ahead of the magic", out, e, at, nil, api.ErrArg, 0)
		out, e, at = Gunzip(tooLong, limit)
		check(t, "a length ahead of a limit", out, e, at, nil, api.ErrLong, 0)
	}
	out, e, at := Gunzip(tooLong, 5)
	check(t, "a length ahead of the magic", out, e, at, nil, api.ErrLong, 0)
	out, e, at = Gunzip(tooLong[1:], 5)
	check(t, "the greatest length", out, e, at, nil, api.ErrMagic, 0)

	stream, text := storedStream(api.MaxPress - 18)
	sum, n := plainCrc(text), len(text)
	data := slices.Concat(emptyMember[:10], stream, []byte{byte(sum), byte(sum >> 8), byte(sum >> 16), byte(sum >> 24), byte(n), byte(n >> 8), byte(n >> 16), byte(n >> 24)})
	if len(data) != api.MaxPress {
		t.Fatalf("%d bytes", len(data))
	}
	for _, limit := range []int{n, api.MaxPress} {
		out, e, at = Gunzip(data, limit)
		check(t, "MaxPress bytes", out, e, at, text, api.OK, 0)
	}
	if _, e, _ := Gunzip(data, n-1); e != api.ErrRoom {
		t.Errorf("a limit of one less: %d", e)
	}
}

// What the library's packer makes is read.
func TestGunzipPacked(t *testing.T) {
	for level := -2; level <= 9; level++ {
		var b bytes.Buffer
		var want []byte
		for _, text := range [][]byte{quick(5000), noise(3000, 2), nil} {
			w, err := gzip.NewWriterLevel(&b, level)
			if err != nil {
				t.Fatal(err)
			}
			w.Name, w.Comment, w.Extra, w.ModTime = "name", "comment", []byte("extra"), time.Unix(1, 0)
			w.Write(text)
			w.Close()
			want = append(want, text...)
		}
		out, e, at := Gunzip(b.Bytes(), len(want))
		check(t, "packed", out, e, at, want, api.OK, 0)
	}
}

func TestGunzipNoise(t *testing.T) {
	for seed := range uint32(2000) {
		data := noise(80, seed)
		copy(data, emptyMember[:3])
		data[3] &= 31
		holdGunzip(t, "noise", data, 100)
	}
}
