package press

import (
	"bytes"

	"graft/api"
)

// Bits of a member's flags.
const (
	flagSum     = 1 << 1
	flagExtra   = 1 << 2
	flagName    = 1 << 3
	flagComment = 1 << 4
	flagsVoid   = 0xe0
)

const (
	headSize = 10 // bytes of a member's head without optional fields
	method   = 8
)

// crcRows is what four bits that leave the register bring into it.
var crcRows = [16]uint32{
	0x00000000, 0x1db71064, 0x3b6e20c8, 0x26d930ac, 0x76dc4190, 0x6b6b51f4, 0x4db26158, 0x5005713c,
	0xedb88320, 0xf00f9344, 0xd6d6a3e8, 0xcb61b38c, 0x9b64c2b0, 0x86d3d2d4, 0xa00ae278, 0xbdbdf21c,
}

// magic is the first two bytes of a member.
var magic = [2]byte{0x1f, 0x8b}

// Crc is the CRC-32 of bytes.
func Crc(data []byte) uint32 {
	register := ^uint32(0)
	for _, b := range data {
		register ^= uint32(b)
		register = register>>4 ^ crcRows[register&15]
		register = register>>4 ^ crcRows[register&15]
	}
	return ^register
}

// Gzip packs bytes into a file of one member; of more than api.MaxArk it makes none.
func Gzip(data []byte) []byte {
	if len(data) > api.MaxArk {
		return nil
	}
	w := bitWriter{out: []byte{magic[0], magic[1], method, 0, 0, 0, 0, 0, 0, 0xff}}
	w.deflate(data)
	w.skip()
	w.number(int(Crc(data)), 32)
	w.number(len(data), 32)
	return w.out
}

// Gunzip unpacks a file's members, one behind the other, into at most limit bytes.
func Gunzip(data []byte, limit int) ([]byte, api.Errno, int) {
	if e := checkInput(data, limit); e != api.OK {
		return nil, e, 0
	}
	var out []byte
	for at := 0; at == 0 || at < len(data); {
		more, e, n := readMember(data[at:], out, limit)
		at += n
		if e != api.OK {
			return nil, e, at
		}
		out = more
	}
	return out, api.OK, 0
}

// readMember unpacks the member that data begins with behind what is in out, and answers its size, or a fault and its place.
func readMember(data, out []byte, limit int) ([]byte, api.Errno, int) {
	e, at := readMemberHead(data)
	if e != api.OK {
		return nil, e, at
	}
	ahead := len(out)
	s := stream{limit: limit - ahead, out: out}
	if e := s.run(data[at:]); e != api.OK {
		return nil, e, at + s.bits.place()
	}
	if s.step != stepEnd {
		return nil, api.ErrShort, len(data)
	}
	at += s.bits.begun
	made := s.out[ahead:]
	for _, want := range [2]uint32{Crc(made), uint32(len(made))} {
		if len(data)-at < 4 {
			return nil, api.ErrShort, len(data)
		}
		if number(data[at:at+4]) != want {
			return nil, api.ErrSum, at
		}
		at += 4
	}
	return s.out, api.OK, at
}

// readMemberHead answers where the head of the member that data begins with ends, or its first fault and the place.
func readMemberHead(data []byte) (api.Errno, int) {
	for at, want := range magic {
		if at == len(data) {
			return api.ErrShort, at
		}
		if data[at] != want {
			return api.ErrMagic, at
		}
	}
	if len(data) == 2 {
		return api.ErrShort, 2
	}
	if data[2] != method {
		return api.ErrMethod, 2
	}
	if len(data) == 3 {
		return api.ErrShort, 3
	}
	if data[3]&flagsVoid != 0 {
		return api.ErrMethod, 3
	}
	if len(data) < headSize {
		return api.ErrShort, len(data)
	}
	return readFields(data, data[3])
}

// readFields passes over the optional fields behind a member's plain head, and holds its sum against it.
func readFields(data []byte, flags byte) (api.Errno, int) {
	rest := data[headSize:]
	whole := true
	if flags&flagExtra != 0 {
		rest, whole = passExtra(rest)
	}
	if whole && flags&flagName != 0 {
		rest, whole = passText(rest)
	}
	if whole && flags&flagComment != 0 {
		rest, whole = passText(rest)
	}
	if !whole {
		return api.ErrShort, len(data)
	}
	at := len(data) - len(rest)
	if flags&flagSum == 0 {
		return api.OK, at
	}
	if len(rest) < 2 {
		return api.ErrShort, len(data)
	}
	if number(rest[:2]) != Crc(data[:at])&0xffff {
		return api.ErrSum, at
	}
	return api.OK, at + 2
}

// passExtra is what stands behind a field that tells its length first; false if it isn't whole.
func passExtra(data []byte) ([]byte, bool) {
	if len(data) < 2 {
		return nil, false
	}
	n := 2 + int(number(data[:2]))
	if len(data) < n {
		return nil, false
	}
	return data[n:], true
}

// passText is what stands behind a field that ends with a byte 0; false if it isn't whole.
func passText(data []byte) ([]byte, bool) {
	_, rest, whole := bytes.Cut(data, []byte{0})
	return rest, whole
}

// number is a number that is laid down with the lowest byte first.
func number(b []byte) uint32 {
	v := uint32(0)
	for i, x := range b {
		v |= uint32(x) << (8 * i)
	}
	return v
}
