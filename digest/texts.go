package digest

import (
	"strings"

	"graft/api"
)

// What a hash text begins with: of the forms 0 and 1, and of the form 2.
const (
	headColon = "sha256:"
	headDash  = "sha256-"
)

// How many characters stand behind the head in each form.
const (
	lengthHex = 64
	length32  = 52
	length64  = 44
)

// Show is a sum's text in one of three forms; "" of another form.
func Show(s api.Sum, form int) string {
	switch form {
	case api.FormHex:
		return headColon + Hex(s[:])
	case api.Form32:
		return headColon + Base32(s[:])
	case api.Form64:
		return headDash + Base64(s[:])
	}
	return ""
}

// Read reads a sum's text: the sum, its form.
func Read(text string) (api.Sum, int, api.Errno, int) {
	form, e, at := formOf(text)
	if e != api.OK {
		return api.Sum{}, 0, e, at
	}
	b, e, at := readForm(text[len(headColon):], form)
	if e != api.OK {
		return api.Sum{}, 0, e, at + len(headColon)
	}
	var s api.Sum
	if len(b) != len(s) {
		// 44 characters of base 64 may also be 31 or 33 bytes.
		return api.Sum{}, 0, api.ErrForm, len(headDash)
	}
	copy(s[:], b)
	return s, form, api.OK, 0
}

// formOf is the form that a text has by its head and its length.
func formOf(text string) (int, api.Errno, int) {
	behind := len(text) - len(headColon)
	switch {
	case strings.HasPrefix(text, headDash) && behind == length64:
		return api.Form64, api.OK, 0
	case strings.HasPrefix(text, headColon) && behind == lengthHex:
		return api.FormHex, api.OK, 0
	case strings.HasPrefix(text, headColon) && behind == length32:
		return api.Form32, api.OK, 0
	}
	return 0, api.ErrForm, max(shared(text, headColon), shared(text, headDash))
}

// readForm reads what stands behind the head.
func readForm(s string, form int) ([]byte, api.Errno, int) {
	switch form {
	case api.Form64:
		return UnBase64(s)
	case api.Form32:
		return UnBase32(s)
	}
	return UnHex(s)
}

// shared is how long the longest beginning of both texts is.
func shared(a, b string) int {
	n := 0
	for n < len(a) && n < len(b) && a[n] == b[n] {
		n++
	}
	return n
}
