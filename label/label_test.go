package label

import (
	"strings"
	"testing"

	"graft/api"
)

const nameBytes = "ABCDEFGHIJKLMNOPQRSTUVWXYZabcdefghijklmnopqrstuvwxyz0123456789+-._?="

// plainCheck is Check by the words of P2.1.
func plainCheck(name string) (api.Errno, int) {
	if len(name) > 211 {
		return api.ErrLong, 0
	}
	if len(name) == 0 || name[0] == '.' {
		return api.ErrName, 0
	}
	for i := range len(name) {
		if strings.IndexByte(nameBytes, name[i]) < 0 {
			return api.ErrName, i
		}
	}
	return api.OK, 0
}

// P2.1, example 1.
func TestCheckExamples(t *testing.T) {
	for _, c := range []struct {
		name string
		e    api.Errno
		at   int
	}{
		{"hello-2.12", api.OK, 0},
		{"", api.ErrName, 0},
		{"a", api.OK, 0},
		{".", api.ErrName, 0},
		{".a", api.ErrName, 0},
		{"a.", api.OK, 0},
		{"-", api.OK, 0},
		{"a b", api.ErrName, 1},
		{"a/b", api.ErrName, 1},
		{"a:b c", api.ErrName, 1},
		{"\x00", api.ErrName, 0},
		{"ab\xff", api.ErrName, 2},
		{"a\xc3\xa4b c", api.ErrName, 1},
		{"a\u0661", api.ErrName, 1},
		{"\uff21", api.ErrName, 0},
		{"a\ufffd", api.ErrName, 1},
		{strings.Repeat("a", 211), api.OK, 0},
		{strings.Repeat("a", 210) + "/", api.ErrName, 210},
		{strings.Repeat("a", 212), api.ErrLong, 0},
		{"." + strings.Repeat(" ", 211), api.ErrLong, 0},
		{strings.Repeat("ä", 106), api.ErrLong, 0},
		{". ", api.ErrName, 0},
		{strings.Repeat("a", 1<<20), api.ErrLong, 0},
	} {
		if e, at := Check(c.name); e != c.e || at != c.at {
			t.Errorf("Check(%.20q) = %d, %d, want %d, %d", c.name, e, at, c.e, c.at)
		}
	}
}

// P2.1: each byte, ahead, within and at the end of names of each length.
func TestCheckBytes(t *testing.T) {
	for _, n := range []int{1, 2, 3, 4, 210, 211, 212} {
		for _, at := range []int{0, 1, n / 2, n - 1} {
			for b := range 256 {
				name := []byte(strings.Repeat("x", n))
				name[min(at, n-1)] = byte(b)
				e, place := Check(string(name))
				if we, wp := plainCheck(string(name)); e != we || place != wp {
					t.Fatalf("Check of %d bytes with %#x at %d = %d, %d, want %d, %d", n, b, at, e, place, we, wp)
				}
			}
		}
	}
}

// P2.1: two bytes that may not stand there, and pieces of runes: the place is that of the first.
func TestCheckPairs(t *testing.T) {
	for a := range 256 {
		for b := range 256 {
			name := "n" + string([]byte{byte(a), byte(b)}) + "\x80z"
			e, at := Check(name)
			if we, wp := plainCheck(name); e != we || at != wp {
				t.Fatalf("Check(%q) = %d, %d, want %d, %d", name, e, at, we, wp)
			}
		}
	}
}
