package label

import (
	"strings"

	"graft/api"
	"graft/digest"
)

// How long the texts of labels are at most.
const (
	maxBase = api.Digits + 1 + api.MaxName
	maxText = len(api.Store) + maxBase
)

// Base is a label's base.
func Base(l api.Label) (string, api.Errno) {
	if e, _ := Check(l.Name); e != api.OK {
		return "", e
	}
	return baseOf(l), api.OK
}

// Print is a label's text.
func Print(l api.Label) (string, api.Errno) {
	if e, _ := Check(l.Name); e != api.OK {
		return "", e
	}
	return api.Store + baseOf(l), api.OK
}

// baseOf is the base of a label that is printable.
func baseOf(l api.Label) string {
	return digest.Base32(l.Hash[:]) + "-" + l.Name
}

// Parse reads a label's text, with the store's directory.
func Parse(text string) (api.Label, api.Errno, int) {
	if len(text) > maxText {
		return api.Label{}, api.ErrLong, 0
	}
	for i := range len(api.Store) {
		if i == len(text) {
			return api.Label{}, api.ErrShort, i
		}
		if text[i] != api.Store[i] {
			return api.Label{}, api.ErrPrefix, i
		}
	}
	l, e, at := ParseBase(text[len(api.Store):])
	if e != api.OK {
		return api.Label{}, e, len(api.Store) + at
	}
	return l, api.OK, 0
}

// ParseBase reads a label's base: hash part, dash, name.
func ParseBase(text string) (api.Label, api.Errno, int) {
	if len(text) > maxBase {
		return api.Label{}, api.ErrLong, 0
	}
	digits := text[:min(len(text), api.Digits)]
	hash, e, at := digest.UnBase32(digits)
	if e == api.ErrDigit {
		return api.Label{}, api.ErrHash, at
	}
	if len(text) <= api.Digits {
		return api.Label{}, api.ErrShort, len(text)
	}
	if text[api.Digits] != '-' {
		return api.Label{}, api.ErrDash, api.Digits
	}
	name := text[api.Digits+1:]
	if e, at := Check(name); e != api.OK {
		return api.Label{}, e, api.Digits + 1 + at
	}
	return api.Label{Hash: api.Hash(hash), Name: name}, api.OK, 0
}

// Split reads a label's text with a way behind it.
func Split(text string) (api.Label, []string, api.Errno, int) {
	if len(text) > api.MaxWay {
		return api.Label{}, nil, api.ErrLong, 0
	}
	end := labelEnd(text)
	l, e, at := Parse(text[:end])
	if e != api.OK {
		return api.Label{}, nil, e, at
	}
	steps, e, at := splitSteps(text[end:])
	if e != api.OK {
		return api.Label{}, nil, e, end + at
	}
	return l, steps, api.OK, 0
}

// labelEnd is where the label's text ends at the head of a way.
func labelEnd(text string) int {
	if len(text) <= len(api.Store) {
		return len(text)
	}
	if at := strings.IndexByte(text[len(api.Store):], '/'); at >= 0 {
		return len(api.Store) + at
	}
	return len(text)
}

// splitSteps reads steps, each with its slash ahead.
func splitSteps(way string) ([]string, api.Errno, int) {
	var steps []string
	for at := 0; at < len(way); {
		at++
		step, _, _ := strings.Cut(way[at:], "/")
		if !isStep(step) {
			return nil, api.ErrEntry, at
		}
		steps = append(steps, step)
		at += len(step)
	}
	return steps, api.OK, 0
}

// isStep tells whether a text without a slash may be a step's name.
func isStep(step string) bool {
	switch step {
	case "", ".", "..":
		return false
	}
	return len(step) <= api.MaxEntry && strings.IndexByte(step, 0) < 0
}
