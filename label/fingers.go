package label

import (
	"strconv"
	"strings"

	"graft/api"
	"graft/digest"
)

// The kinds of fingers: api's numbers, counted so that they are the places in the table of kinds.
const (
	noKind = iota
	kindText
	kindSource
	kindOutput
	kindMember
	kindCount
)

// What a finger of a kind may use beside Inner and Name.
const (
	usesRefs = 1 << iota
	usesSelf
	usesOut
	usesIndex
)

// kind is what is to be known of a kind of fingers.
type kind struct {
	word string // the first word of its head
	uses int
}

var kinds = [kindCount]kind{
	kindText:   {"text", usesRefs},
	kindSource: {"source", usesRefs | usesSelf},
	kindOutput: {"output", usesOut},
	kindMember: {"member", usesIndex},
}

// What stands around a finger's sum, and behind the references of one that mentions itself.
const (
	aheadOfSum = ":sha256:"
	behindSum  = ":/graft/store:"
	sumDigits  = 64
	aroundSum  = len(aheadOfSum) + sumDigits + len(behindSum)
	selfWord   = "self"
)

// Say is a fingerprint as text.
func Say(f api.Finger) (string, api.Errno) {
	if e := checkFinger(f); e != api.OK {
		return "", e
	}
	return headOf(f) + aheadOfSum + digest.Hex(f.Inner[:]) + behindSum + f.Name, api.OK
}

// checkFinger is why a finger may not be said.
func checkFinger(f api.Finger) api.Errno {
	if f.Kind <= noKind || f.Kind >= kindCount {
		return api.ErrKind
	}
	if hasUnused(f) {
		return api.ErrUnused
	}
	if e, _ := Check(f.Name); e != api.OK {
		return e
	}
	if kinds[f.Kind].uses&usesOut != 0 {
		if e, _ := Check(f.Out); e != api.OK {
			return e
		}
	}
	if f.Index < 0 || f.Index >= api.MaxGroup {
		return api.ErrArg
	}
	return checkRefs(f.Refs)
}

// fields are those of a finger that not every kind uses, as one value that == holds against another.
type fields struct {
	refs  int
	self  bool
	out   string
	index int
}

// hasUnused tells whether a finger has a field that its kind does not use and that is not zero.
func hasUnused(f api.Finger) bool {
	left := fields{len(f.Refs), f.Self, f.Out, f.Index}
	uses := kinds[f.Kind].uses
	if uses&usesRefs != 0 {
		left.refs = 0
	}
	if uses&usesSelf != 0 {
		left.self = false
	}
	if uses&usesOut != 0 {
		left.out = ""
	}
	if uses&usesIndex != 0 {
		left.index = 0
	}
	return left != fields{}
}

// checkRefs is why references may not stand in a finger.
func checkRefs(refs []api.Label) api.Errno {
	if len(refs) > api.MaxRefs {
		return api.ErrLong
	}
	for _, l := range refs {
		if e, _ := Check(l.Name); e != api.OK {
			return e
		}
	}
	return api.OK
}

// headOf is the head of a finger that may be said.
func headOf(f api.Finger) string {
	var head strings.Builder
	head.WriteString(kinds[f.Kind].word)
	for _, l := range Sort(f.Refs) {
		head.WriteString(":" + api.Store + baseOf(l))
	}
	if f.Self {
		head.WriteString(":" + selfWord)
	}
	switch f.Kind {
	case kindOutput:
		head.WriteString(":" + f.Out)
	case kindMember:
		head.WriteString(":" + strconv.Itoa(f.Index))
	}
	return head.String()
}

// Hear reads a fingerprint's text.
func Hear(text string) (api.Finger, api.Errno) {
	f, ok := readFinger(text)
	if !ok {
		return api.Finger{}, api.ErrFinger
	}
	// The reading is broad: it is the saying that tells whether each byte is the one that must stand there.
	if said, e := Say(f); e != api.OK || said != text {
		return api.Finger{}, api.ErrFinger
	}
	return f, api.OK
}

// readFinger is the one finger that may have this text; false if it is plain that there is none.
func readFinger(text string) (api.Finger, bool) {
	nameAt := strings.LastIndexByte(text, ':') + 1
	headEnd := nameAt - aroundSum
	if headEnd < 0 {
		return api.Finger{}, false
	}
	sumAt := headEnd + len(aheadOfSum)
	inner, e, _ := digest.UnHex(text[sumAt : sumAt+sumDigits])
	if e != api.OK {
		return api.Finger{}, false
	}
	f := api.Finger{Inner: api.Sum(inner), Name: text[nameAt:]}
	ok := readHead(&f, text[:headEnd])
	return f, ok
}

// readHead lays down in a finger what its head says.
func readHead(f *api.Finger, head string) bool {
	word, rest, more := strings.Cut(head, ":")
	switch word {
	case kinds[kindText].word:
		f.Kind = kindText
		return readRefs(f, rest, more)
	case kinds[kindSource].word:
		f.Kind = kindSource
		return readRefs(f, rest, more)
	case kinds[kindOutput].word:
		f.Kind = kindOutput
		f.Out = rest
		return true
	case kinds[kindMember].word:
		f.Kind = kindMember
		index, err := strconv.Atoi(rest)
		f.Index = index
		return err == nil
	}
	return false
}

// readRefs lays down in a finger the references that stand in the rest of its head, and whether it mentions itself.
func readRefs(f *api.Finger, rest string, more bool) bool {
	for more {
		var part string
		part, rest, more = strings.Cut(rest, ":")
		if part == selfWord && !more {
			f.Self = true
			return true
		}
		l, e, _ := Parse(part)
		if e != api.OK || len(f.Refs) == api.MaxRefs {
			return false
		}
		f.Refs = append(f.Refs, l)
	}
	return true
}
