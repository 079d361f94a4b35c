package card

import (
	"slices"
	"strconv"
	"strings"

	"graft/api"
	"graft/digest"
)

// maxSecret is how many bytes a secret may have by which a card is signed.
const maxSecret = 255

// Sign puts a key's signature on a card.
func Sign(c api.Card, k api.Key) (api.Card, api.Errno) {
	if err := check(c); err != nil {
		return api.Card{}, errnoOf(err)
	}
	if !isName(k.Name) {
		return api.Card{}, api.ErrMark
	}
	if len(k.Secret) == 0 || len(k.Secret) > maxSecret {
		return api.Card{}, api.ErrArg
	}
	at, there := markBy(c.Marks, k.Name)
	if len(c.Marks) == api.MaxMarks && !there {
		return api.Card{}, api.ErrFull
	}
	marks := append([]api.Mark(nil), c.Marks...)
	if !there {
		marks = slices.Insert(marks, at, api.Mark{Key: k.Name})
	}
	marks[at].Tag = tagOf(k.Secret, []byte(says(c)))
	c.Marks = marks
	c.Refs = append([]string(nil), c.Refs...)
	return c, api.OK
}

// Proves tells whether one of the keys has signed a card.
func Proves(c api.Card, keys []api.Key) bool {
	if check(c) != nil {
		return false
	}
	said := []byte(says(c))
	for _, k := range keys {
		at, there := markBy(c.Marks, k.Name)
		if there && c.Marks[at].Tag == tagOf(k.Secret, said) {
			return true
		}
	}
	return false
}

// says is what the signatures of a card that may be one are of.
func says(c api.Card) string {
	return "card-1;" + strings.Join([]string{c.Label, c.ArkSum, strconv.Itoa(c.ArkSize), strings.Join(c.Refs, ","), c.Maker, c.Ca}, ";")
}

// tagOf is the signature of what a card says.
func tagOf(secret, said []byte) string {
	sum := digest.Mac(secret, said)
	return digest.Base64(sum[:])
}

// markBy is the place of the mark by a key of that name, or where it would stand, and whether it is there.
func markBy(marks []api.Mark, name string) (int, bool) {
	return slices.BinarySearchFunc(marks, name, func(m api.Mark, name string) int { return strings.Compare(m.Key, name) })
}
