package modulo

import (
	"crypto/sha256"
	"encoding/binary"
	"slices"
	"strings"
	"testing"

	"graft/api"
	"graft/digest"
)

func someHash(n int) api.Hash {
	return digest.Fold(sha256.Sum256(binary.LittleEndian.AppendUint64(nil, uint64(n))))
}

func part(h api.Hash) string { return digest.Base32(h[:]) }

func checkMask(t *testing.T, what, data string, olds []api.Hash, want string, hits ...api.Hit) {
	t.Helper()
	got, at, e, place := Mask([]byte(data), olds)
	if string(got) != want || !slices.Equal(at, hits) || e != api.OK || place != 0 {
		t.Errorf("P7.5: %s: %s, %v, %d, %d, want %s, %v", what, short(string(got)), at, e, place, short(want), hits)
	}
}

func refuseMask(t *testing.T, what, data string, olds []api.Hash, want api.Errno, wantAt int) {
	t.Helper()
	if got, hits, e, at := Mask([]byte(data), olds); len(got) != 0 || len(hits) != 0 || e != want || at != wantAt {
		t.Errorf("P7.5: %s: %s, %v, %d, %d, want %d, %d", what, short(string(got)), hits, e, at, want, wantAt)
	}
}

// P7.5: what is masked, and where it was.
func TestMask(t *testing.T) {
	a, b, zero := someHash(1), someHash(2), api.Hash{}
	none := strings.Repeat("\x00", 32)
	for _, olds := range [][]api.Hash{nil, {}} {
		checkMask(t, "no patterns", "x"+part(a)+part(zero), olds, "x"+part(a)+part(zero))
		checkMask(t, "nothing", "", olds, "")
	}
	checkMask(t, "no bytes", "", []api.Hash{a}, "")
	checkMask(t, "one less than a mention", part(a)[1:], []api.Hash{a}, part(a)[1:])
	checkMask(t, "a mention", part(a), []api.Hash{b, a}, none, api.Hit{At: 0, Which: 1})
	checkMask(t, "mentions side by side", "x"+part(b)+part(a)+part(b)+"y", []api.Hash{b, a}, "x"+none+none+none+"y",
		api.Hit{At: 1, Which: 0}, api.Hit{At: 33, Which: 1}, api.Hit{At: 65, Which: 0})
	checkMask(t, "others' mentions", part(a)+"-"+part(b), []api.Hash{b}, part(a)+"-"+none, api.Hit{At: 33, Which: 0})
	checkMask(t, "twice a hash of zeros", part(zero)+part(zero)[:31]+"x", []api.Hash{a}, part(zero)+part(zero)[:31]+"x")
	long := strings.Repeat("-", 1<<20) + part(a) // no bound for the data
	checkMask(t, "a long one", long, []api.Hash{a}, long[:1<<20]+none, api.Hit{At: 1 << 20, Which: 0})
}

// P7.5: patterns that are equal, too many, and mentions that overlap.
func TestMaskRefuses(t *testing.T) {
	a, zero := someHash(1), api.Hash{}
	refuseMask(t, "equal ones", "", []api.Hash{a, a}, api.ErrTwice, 0)
	refuseMask(t, "equal ones", "x"+part(a), []api.Hash{a, zero, a}, api.ErrTwice, 0)
	refuseMask(t, "33 zeros", strings.Repeat("0", 33), []api.Hash{zero}, api.ErrOverlap, 1)
	refuseMask(t, "63 zeros", "--"+strings.Repeat("0", 63), []api.Hash{zero}, api.ErrOverlap, 3)
	refuseMask(t, "the second pair", part(zero)+"-"+strings.Repeat("0", 33), []api.Hash{zero}, api.ErrOverlap, 34)
	shifted, _, _ := digest.UnBase32(part(a)[31:] + strings.Repeat("z", 31))
	refuseMask(t, "by one digit", part(a)+strings.Repeat("z", 31), []api.Hash{a, api.Hash(shifted)}, api.ErrOverlap, 31)
	refuseMask(t, "equal ones and overlaps", strings.Repeat("0", 33), []api.Hash{zero, zero}, api.ErrTwice, 0)
}

// P7.5: as many patterns as there may be, and more.
func TestMaskMany(t *testing.T) {
	olds := make([]api.Hash, 4099)
	for i := range olds {
		olds[i] = someHash(i)
	}
	data := "x" + part(olds[4095]) + part(olds[4096]) + part(olds[0])
	none := strings.Repeat("\x00", 32)
	checkMask(t, "4096", data, olds[:4096], "x"+none+part(olds[4096])+none, api.Hit{At: 1, Which: 4095}, api.Hit{At: 65, Which: 0})
	for _, n := range []int{4097, 4098, 4099} {
		refuseMask(t, "too many", data, olds[:n], api.ErrLong, 0)
	}
	refuseMask(t, "too many, all equal", data, make([]api.Hash, 5000), api.ErrLong, 0)
	refuseMask(t, "4096, the last ones equal", data, append(slices.Clone(olds[:4095]), olds[0]), api.ErrTwice, 0)
}
