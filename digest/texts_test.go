package digest

import (
	"strings"
	"testing"

	"graft/api"
)

// 1.6: the three texts of one sum.
func TestShowForms(t *testing.T) {
	s := Of(nil)
	for form, want := range []string{
		"sha256:e3b0c44298fc1c149afbf4c8996fb92427ae41e4649b934ca495991b7852b855",
		"sha256:0mdqa9w1p6cmli6976v4wi0sw9r4p5prkj7lzfd1877wk11c9c73",
		"sha256-47DEQpj8HBSa+/TImW+5JCeuQeRkm5NMpJWZG3hSuFU=",
	} {
		if got := Show(s, form); got != want {
			t.Errorf("form %d: %s", form, got)
		}
	}
	for _, form := range []int{3, -1, 4, 1 << 32, -1 << 63} {
		if Show(s, form) != "" {
			t.Errorf("form %d has a text", form)
		}
	}
}

// 1.7: every sum and form comes back.
func TestReadForms(t *testing.T) {
	sums := []api.Sum{{}, Of(nil)}
	for i := range 32 {
		var s api.Sum
		s[i] = 0xff
		sums = append(sums, s, Of(s[:]))
	}
	for _, s := range sums {
		for form := range 3 {
			back, f, e, at := Read(Show(s, form))
			if back != s || f != form || e != api.OK || at != 0 {
				t.Errorf("form %d of %x: %x, %d, %d, %d", form, s, back, f, e, at)
			}
		}
	}
}

// 1.6, 1.9.8, 1.9.9: what is refused, and where; the sum and the form are zero then.
func TestReadRefuses(t *testing.T) {
	zeros := func(n int) string { return strings.Repeat("0", n) }
	for _, c := range []struct {
		text string
		e    api.Errno
		at   int
	}{
		{"", api.ErrForm, 0}, {"x", api.ErrForm, 0}, {"s", api.ErrForm, 1}, {"sha25", api.ErrForm, 5}, {"sha256", api.ErrForm, 6}, {"sha1:", api.ErrForm, 3},
		{"sha256;" + zeros(64), api.ErrForm, 6}, {"sha256", api.ErrForm, 6}, {"SHA256:" + zeros(64), api.ErrForm, 0}, {" sha256:" + zeros(64), api.ErrForm, 0},
		{"sha256:", api.ErrForm, 7}, {"sha256:0", api.ErrForm, 7}, {"sha256:" + zeros(63), api.ErrForm, 7}, {"sha256:" + zeros(65), api.ErrForm, 7},
		{"sha256:" + zeros(51), api.ErrForm, 7}, {"sha256:" + zeros(53), api.ErrForm, 7}, {"sha256:" + zeros(44), api.ErrForm, 7},
		{"sha256-", api.ErrForm, 7}, {"sha256-" + zeros(43), api.ErrForm, 7}, {"sha256-" + zeros(45), api.ErrForm, 7}, {"sha256-" + zeros(64), api.ErrForm, 7}, {"sha256-" + zeros(52), api.ErrForm, 7},
		{"sha256:" + zeros(63) + "F", api.ErrDigit, 70}, {"sha256:G" + zeros(63), api.ErrDigit, 7},
		{"sha256:" + zeros(51) + "e", api.ErrDigit, 58}, {"sha256:e" + zeros(51), api.ErrDigit, 7}, {"sha256:z" + zeros(51), api.ErrBits, 7}, {"sha256:2" + zeros(51), api.ErrBits, 7},
		{"sha256-" + zeros(44), api.ErrForm, 7}, {"sha256-" + strings.Repeat("A", 42) + "==", api.ErrForm, 7},
		{"sha256-" + strings.Repeat("A", 41) + "===", api.ErrDigit, 48}, {"sha256-!" + zeros(43), api.ErrDigit, 7},
		{"sha256-" + strings.Repeat("A", 42) + "B=", api.ErrBits, 49}, {"sha256-" + strings.Repeat("A", 41) + "B==", api.ErrBits, 48},
	} {
		s, form, e, at := Read(c.text)
		if s != (api.Sum{}) || form != 0 || e != c.e || at != c.at {
			t.Errorf("%q: %x, %d, %d, %d, want %d, %d", c.text, s, form, e, at, c.e, c.at)
		}
	}
	for _, text := range []string{"sha256:" + zeros(64), "sha256:" + zeros(52), "sha256:1" + zeros(51), "sha256-" + strings.Repeat("A", 43) + "="} {
		if _, _, e, at := Read(text); e != api.OK || at != 0 {
			t.Errorf("%q: %d, %d", text, e, at)
		}
	}
}

// 1.7: with any one character turned, a text is refused, or is the one text of another sum.
func TestReadTurned(t *testing.T) {
	s := Of([]byte("turned"))
	for form := range 3 {
		text := Show(s, form)
		for i := range text {
			for c := range 256 {
				turned := text[:i] + string([]byte{byte(c)}) + text[i+1:]
				back, f, e, _ := Read(turned)
				if e == api.OK && Show(back, f) != turned {
					t.Fatalf("%q is taken, and is the text %q", turned, Show(back, f))
				}
				if e == api.OK && turned != text && back == s {
					t.Fatalf("%q is taken as %q", turned, text)
				}
			}
		}
	}
}
