package digest

import (
	"bytes"
	"crypto/hmac"
	"crypto/sha256"
	"encoding"
	"encoding/binary"
	"math/big"
	"strings"
	"sync"
	"testing"

	"graft/api"
)

// sample is n bytes that are the same at every run, and unlike those of another seed.
func sample(n int, seed uint64) []byte {
	b := make([]byte, n)
	for i := range b {
		seed = seed*6364136223846793005 + 1442695040888963407
		b[i] = byte(seed >> 56)
	}
	return b
}

// edges are lengths about the ends of blocks and of what the padding leaves room for.
var edges = []int{0, 1, 2, 3, 31, 32, 54, 55, 56, 57, 62, 63, 64, 65, 66, 118, 119, 120, 121, 127, 128, 129, 183, 184, 191, 192, 193, 1000}

func primes(n int) []int64 {
	var out []int64
next:
	for p := int64(2); len(out) < n; p++ {
		for _, q := range out {
			if p%q == 0 {
				continue next
			}
		}
		out = append(out, p)
	}
	return out
}

// cubeRoot is the whole part of n's cube root.
func cubeRoot(n *big.Int) *big.Int {
	low, high := big.NewInt(0), new(big.Int).Lsh(big.NewInt(1), uint(n.BitLen()/3+1))
	for {
		mid := new(big.Int).Rsh(new(big.Int).Add(low, high), 1)
		if mid.Cmp(low) == 0 {
			return low
		}
		if new(big.Int).Exp(mid, big.NewInt(3), nil).Cmp(n) <= 0 {
			low = mid
		} else {
			high = mid
		}
	}
}

// 1.1: the constants are the parts behind the point of the primes' roots.
func TestConstants(t *testing.T) {
	for i, p := range primes(64) {
		root := cubeRoot(new(big.Int).Lsh(big.NewInt(p), 96))
		if want := uint32(root.Uint64()); roundConstants[i] != want {
			t.Errorf("K[%d] = %08x, want %08x", i, roundConstants[i], want)
		}
	}
	for i, p := range primes(8) {
		root := new(big.Int).Sqrt(new(big.Int).Lsh(big.NewInt(p), 64))
		if want := uint32(root.Uint64()); startState[i] != want {
			t.Errorf("H[%d] = %08x, want %08x", i, startState[i], want)
		}
	}
}

// 1.1, 1.9.1: sums of known texts.
func TestOfExamples(t *testing.T) {
	for text, want := range map[string]string{
		"":    "e3b0c44298fc1c149afbf4c8996fb92427ae41e4649b934ca495991b7852b855",
		"abc": "ba7816bf8f01cfea414140de5dae2223b00361a396177a9cb410ff61f20015ad",
		"abcdbcdecdefdefgefghfghighijhijkijkljklmklmnlmnomnopnopq": "248d6a61d20638b8e5c026930c3e6039a33ce45964ff2167f6ecedd419db06c1",
		strings.Repeat("a", 1000000):                               "cdc76e5c9914fb9281a1c7e284d73e67f1809a48a497200e046d39ccc7112cd0",
	} {
		s := Of([]byte(text))
		if got := Hex(s[:]); got != want {
			t.Errorf("Of of %d bytes = %s, want %s", len(text), got, want)
		}
	}
	if Of(nil) != Of([]byte{}) {
		t.Errorf("nil and empty have unlike sums")
	}
}

// 1.1: sums of every short length, the edges of the padding among them.
func TestOfLengths(t *testing.T) {
	for n := range 300 {
		b := sample(n, uint64(n))
		if Of(b) != sha256.Sum256(b) {
			t.Errorf("Of of %d bytes", n)
		}
	}
	b := sample(api.MaxArk, 1)
	if Of(b) != sha256.Sum256(b) {
		t.Errorf("Of of %d bytes", len(b))
	}
}

// 1.2: Sum and Len hang on the bytes, not on how they were cut; Sum changes nothing.
func TestPieces(t *testing.T) {
	for _, n := range edges {
		b := sample(n, 7)
		for _, size := range []int{1, 2, 3, 55, 56, 63, 64, 65, 127, 128, 129} {
			h := New()
			for at := 0; at < n; at += size {
				if e := h.Write(b[at:min(at+size, n)]); e != api.OK {
					t.Fatalf("Write answers %d", e)
				}
				if e := h.Write(nil); e != api.OK {
					t.Fatalf("Write of nothing answers %d", e)
				}
				taken := min(at+size, n)
				if h.Len() != taken || h.Sum() != sha256.Sum256(b[:taken]) {
					t.Fatalf("behind %d of %d bytes in pieces of %d", taken, n, size)
				}
			}
			if h.Sum() != Of(b) || h.Sum() != h.Sum() || h.Len() != n {
				t.Errorf("%d bytes in pieces of %d", n, size)
			}
		}
	}
}

// 1.2: every way to cut 200 bytes into three.
func TestCuts(t *testing.T) {
	b := sample(200, 9)
	want := Of(b)
	for i := range len(b) + 1 {
		for j := i; j <= len(b); j++ {
			h := New()
			h.Write(b[:i])
			h.Write(b[i:j])
			h.Write(b[j:])
			if h.Sum() != want || h.Len() != len(b) {
				t.Fatalf("cut at %d and %d", i, j)
			}
		}
	}
}

// 1.2: a clone has taken the same, and neither says anything to the other.
func TestClone(t *testing.T) {
	for _, n := range edges {
		b, more, other := sample(n, 1), sample(100, 2), sample(70, 3)
		h := New()
		h.Write(b)
		c := h.Clone()
		if c == h || c.Len() != n || c.Sum() != Of(b) {
			t.Fatalf("the clone of %d bytes", n)
		}
		h.Write(more)
		c.Write(other)
		if h.Sum() != Of(append(bytes.Clone(b), more...)) || h.Len() != n+len(more) {
			t.Errorf("%d bytes: the clone's bytes show in the first", n)
		}
		if c.Sum() != Of(append(bytes.Clone(b), other...)) || c.Len() != n+len(other) {
			t.Errorf("%d bytes: the first's bytes show in the clone", n)
		}
		h.Reset()
		if c.Len() != n+len(other) {
			t.Errorf("%d bytes: Reset shows in the clone", n)
		}
	}
}

// 1.2: behind Reset a hasher is like a new one.
func TestReset(t *testing.T) {
	for _, n := range edges {
		h := New()
		h.Write(sample(n, 4))
		h.Reset()
		if h.Len() != 0 || h.Sum() != Of(nil) {
			t.Errorf("%d bytes: Reset leaves something", n)
		}
		b := sample(n, 5)
		h.Write(b)
		if h.Len() != n || h.Sum() != Of(b) {
			t.Errorf("%d bytes behind Reset", n)
		}
	}
}

// 1.2, and nil objects everywhere: zero values, and nothing is done.
func TestNilHasher(t *testing.T) {
	var h *Hasher
	if e := h.Write([]byte("abc")); e != api.OK {
		t.Errorf("Write answers %d", e)
	}
	if h.Sum() != (api.Sum{}) || h.Len() != 0 || h.Clone() != nil {
		t.Errorf("a nil Hasher answers something")
	}
	h.Reset()
}

// at is a hasher as it would be if n bytes of which the last block's are rest had brought it to a state.
func at(n int, state [8]uint32, rest []byte) *Hasher {
	h := &Hasher{state: state, length: n}
	copy(h.rest[:], rest)
	return h
}

// reference is crypto/sha256's sum of the same.
func reference(t *testing.T, h *Hasher) api.Sum {
	t.Helper()
	text := []byte("sha\x03")
	for _, x := range h.state {
		text = binary.BigEndian.AppendUint32(text, x)
	}
	text = append(text, h.rest[:h.length%blockSize]...)
	text = append(text, make([]byte, blockSize-h.length%blockSize)...)
	text = binary.BigEndian.AppendUint64(text, uint64(h.length))
	r := sha256.New()
	if err := r.(encoding.BinaryUnmarshaler).UnmarshalBinary(text); err != nil {
		t.Fatal(err)
	}
	return api.Sum(r.Sum(nil))
}

// 1.2, the limits and the counters: at MaxHash all is taken; above it nothing, and nothing changes.
func TestMaxHash(t *testing.T) {
	state := [8]uint32{1, 2, 3, 4, 5, 6, 7, 8}
	for _, left := range []int{0, 1, 3, 63, 64, 65, 200} {
		h := at(api.MaxHash-left, state, sample(blockSize, 6))
		before := *h
		if e := h.Write(make([]byte, left+1)); e != api.ErrLong || *h != before {
			t.Errorf("%d left: one more answers %d", left, e)
		}
		if e := h.Write(nil); e != api.OK || *h != before {
			t.Errorf("%d left: nothing answers %d", left, e)
		}
		if e := h.Write(sample(left, 8)); e != api.OK || h.Len() != api.MaxHash {
			t.Errorf("%d left: just these answer %d, %d in all", left, e, h.Len())
		}
		if h.Sum() != reference(t, h) {
			t.Errorf("%d left: the sum of MaxHash bytes", left)
		}
		full := *h
		if e := h.Write([]byte{0}); e != api.ErrLong || *h != full {
			t.Errorf("%d left: a byte behind the end answers %d", left, e)
		}
	}
}

// 1.1: all eight bytes of the length count.
func TestLengthBytes(t *testing.T) {
	state := [8]uint32{8, 7, 6, 5, 4, 3, 2, 1}
	for bit := range 61 {
		for _, n := range []int{1<<bit - 1, 1 << bit} {
			if n == 0 {
				continue
			}
			h := at(n, state, sample(blockSize, uint64(bit)))
			if h.Sum() != reference(t, h) {
				t.Errorf("the sum of %d bytes", n)
			}
		}
	}
}

// 1.3, 1.9.2: keys about the length of a block, and data about the padding's edges.
func TestMac(t *testing.T) {
	m := Mac([]byte("key"), []byte("The quick brown fox jumps over the lazy dog"))
	if got := Hex(m[:]); got != "f7bc83f430538424b13298e6aa6fb143ef4d59a14946175997479dbc2d1a3cd8" {
		t.Errorf("1.9.2: %s", got)
	}
	for _, k := range []int{0, 1, 31, 32, 33, 63, 64, 65, 128, 200} {
		for _, n := range edges {
			key, data := sample(k, 1), sample(n, 2)
			r := hmac.New(sha256.New, key)
			r.Write(data)
			if Mac(key, data) != api.Sum(r.Sum(nil)) {
				t.Errorf("a key of %d bytes, data of %d", k, n)
			}
		}
	}
	if Mac(nil, nil) != Mac([]byte{}, []byte{}) {
		t.Errorf("nil and empty have unlike keyed sums")
	}
	long := sample(65, 3)
	short := Of(long)
	if Mac(long, nil) != Mac(short[:], nil) {
		t.Errorf("a key of 65 bytes isn't its sum")
	}
}

// 1.4, 1.9.3.
func TestFold(t *testing.T) {
	var s api.Sum
	for i := range s {
		s[i] = byte(i)
	}
	want := api.Hash{0x14, 0x14, 0x14, 0x14, 0x1c, 0x1c, 0x1c, 0x1c, 0x14, 0x14, 0x14, 0x14, 12, 13, 14, 15, 16, 17, 18, 19}
	if Fold(s) != want {
		t.Errorf("1.9.3: %x", Fold(s))
	}
	for i := range s {
		var one api.Sum
		one[i] = 0xa5
		var place api.Hash
		place[i%20] = 0xa5
		if Fold(one) != place {
			t.Errorf("byte %d goes to %x", i, Fold(one))
		}
	}
}

// Memory: what is handed in is neither changed nor kept, nor is the room behind it written to.
func TestTakenMemory(t *testing.T) {
	for _, n := range edges {
		room := sample(n+100, 5)
		before := bytes.Clone(room)
		p := room[:n]
		h := New()
		h.Write(p)
		Of(p)
		Mac(p, p)
		Hex(p)
		Base32(p)
		Base64(p)
		if !bytes.Equal(room, before) {
			t.Fatalf("%d bytes handed in were changed", n)
		}
		clear(room)
		if h.Sum() != Of(before[:n]) {
			t.Errorf("%d bytes handed in were kept", n)
		}
	}
}

// Several objects: those made alike answer alike, also when they are used at one time.
func TestSeveralHashers(t *testing.T) {
	var wait sync.WaitGroup
	sums := make([]api.Sum, 8)
	b := sample(10000, 1)
	shared := New()
	shared.Write(b)
	for i := range sums {
		wait.Go(func() {
			h := New()
			for at := 0; at < len(b); at += 17 {
				h.Write(b[at:min(at+17, len(b))])
			}
			sums[i] = h.Sum()
			if shared.Sum() != sums[i] || shared.Clone().Len() != len(b) {
				t.Errorf("looks at one hasher at one time differ")
			}
		})
	}
	wait.Wait()
	for i, s := range sums {
		if s != Of(b) {
			t.Errorf("hasher %d", i)
		}
	}
}
