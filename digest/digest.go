// Package digest: sums and their texts: see the chapter 01-digest of the document.
package digest

import (
	"graft/api"
)

// Hasher takes bytes piece by piece.
type Hasher struct {
	state  [8]uint32 // behind the whole blocks that were taken; laid down with the first bytes
	rest   [blockSize]byte
	length int // its remainder by blockSize is how many bytes of rest count
}

// New is a hasher that has taken nothing.
func New() *Hasher { return &Hasher{} }

// Write takes more bytes.
func (h *Hasher) Write(p []byte) api.Errno {
	if h == nil {
		return api.OK
	}
	if len(p) > api.MaxHash-h.length {
		return api.ErrLong
	}
	h.begin()
	used := h.length % blockSize
	h.length += len(p)
	if used > 0 {
		n := copy(h.rest[used:], p)
		if used+n < blockSize {
			return api.OK
		}
		h.state = mix(h.state, h.rest[:])
		p = p[n:]
	}
	for len(p) >= blockSize {
		h.state = mix(h.state, p[:blockSize])
		p = p[blockSize:]
	}
	copy(h.rest[:], p)
	return api.OK
}

// Sum is the SHA-256 of all that was taken so far.
func (h *Hasher) Sum() api.Sum {
	if h == nil {
		return api.Sum{}
	}
	// The padding goes into a copy, so that more can be written behind what was taken.
	padded := *h
	padded.begin()
	padded.pad()
	return sumOfState(padded.state)
}

// Len is how many bytes were taken.
func (h *Hasher) Len() int {
	if h == nil {
		return 0
	}
	return h.length
}

// Clone is another hasher that has taken the same.
func (h *Hasher) Clone() *Hasher {
	if h == nil {
		return nil
	}
	other := *h
	return &other
}

// Reset forgets all that was taken.
func (h *Hasher) Reset() {
	if h == nil {
		return
	}
	*h = Hasher{}
}

// Of is the SHA-256 of bytes.
func Of(data []byte) api.Sum { return sumOfParts(data) }

// Mac is the HMAC of bytes under a key.
func Mac(key, data []byte) api.Sum {
	var inner, outer [blockSize]byte
	if len(key) > blockSize {
		short := Of(key)
		copy(inner[:], short[:])
	} else {
		copy(inner[:], key)
	}
	for i, b := range inner {
		inner[i] = b ^ 0x36
		outer[i] = b ^ 0x5c
	}
	sum := sumOfParts(inner[:], data)
	return sumOfParts(outer[:], sum[:])
}

// Fold folds a sum to 160 bits.
func Fold(s api.Sum) api.Hash {
	var h api.Hash
	for i, b := range s {
		h[i%len(h)] ^= b
	}
	return h
}

// sumOfParts is the sum of the parts one behind the other; the zero Sum if they are too long for one.
func sumOfParts(parts ...[]byte) api.Sum {
	var h Hasher
	for _, p := range parts {
		if h.Write(p) != api.OK {
			return api.Sum{}
		}
	}
	return h.Sum()
}
