package modulo

import (
	"slices"
	"strings"

	"graft/api"
	"graft/ark"
	"graft/digest"
	"graft/label"
	"graft/lay"
	"graft/sieve"
)

// groupWord stands at the head of a group's text.
const groupWord = "graft-group-1"

// Group names the members of a group: OK, or the error and the number of the member.
func Group(members []api.Member) (api.Naming, api.Errno, int) {
	if e, which := checkGroup(members); e != api.OK {
		return api.Naming{}, e, which
	}
	order := byName(members)
	places := placesOf(order)
	text := groupText(members, order, places)
	n := api.Naming{Sum: digest.Of(text), Text: text, Labels: make([]api.Label, len(members))}
	for i, m := range members {
		n.Labels[i], _ = label.Member(n.Sum, places[i], m.Name) // neither the place nor the name can be wrong any more
	}
	return n, api.OK, 0
}

// Renamed is the members' archives with their new hash parts.
func Renamed(members []api.Member, n api.Naming) ([][]byte, api.Errno) {
	if len(n.Labels) != len(members) {
		return nil, api.ErrArg
	}
	for _, m := range members {
		if !hitsFit(m, len(members)) {
			return nil, api.ErrArg
		}
	}
	parts := make([]string, len(members))
	for i, l := range n.Labels {
		parts[i] = digest.Base32(l.Hash[:])
	}
	arks := make([][]byte, len(members))
	for i, m := range members {
		arks[i] = slices.Clone(m.Ark)
		for _, h := range m.Hits {
			copy(arks[i][h.At:], parts[h.Which])
		}
	}
	return arks, api.OK
}

// checkGroup is the first error of a group, and the number of its member.
func checkGroup(members []api.Member) (api.Errno, int) {
	switch {
	case len(members) > api.MaxGroup:
		return api.ErrLong, 0
	case len(members) == 0:
		return api.ErrArg, 0
	}
	for which := range members {
		if e := checkMember(members, which); e != api.OK {
			return e, which
		}
	}
	return api.OK, 0
}

func checkMember(members []api.Member, which int) api.Errno {
	m := members[which]
	if e, _ := label.Check(m.Name); e != api.OK {
		return e
	}
	switch {
	case slices.ContainsFunc(members[:which], func(ahead api.Member) bool { return ahead.Name == m.Name }):
		return api.ErrTwins
	case !isArk(m.Ark):
		return api.ErrArk
	case !hitsFit(m, len(members)):
		return api.ErrArg
	}
	return checkRefs(m.Refs)
}

func isArk(data []byte) bool {
	_, e, _ := ark.Parse(data)
	return e == api.OK
}

// hitsFit says whether a member's mentions lie within its archive, one behind the other, and are each of one of so many members.
func hitsFit(m api.Member, members int) bool {
	for _, h := range m.Hits {
		if h.At < 0 || h.At > len(m.Ark)-api.Digits || h.Which < 0 || h.Which >= members {
			return false
		}
	}
	return sieve.Overlap(m.Hits, api.Digits) < 0
}

func checkRefs(refs []api.Label) api.Errno {
	if len(refs) > api.MaxRefs {
		return api.ErrLong
	}
	for _, ref := range refs {
		if e, _ := label.Check(ref.Name); e != api.OK {
			return e
		}
	}
	for i := 1; i < len(refs); i++ {
		if label.Compare(refs[i-1], refs[i]) >= 0 {
			return api.ErrOrder
		}
	}
	return api.OK
}

// byName is the members' numbers in the order of their names.
func byName(members []api.Member) []int {
	order := make([]int, len(members))
	for i := range order {
		order[i] = i
	}
	slices.SortFunc(order, func(a, b int) int { return strings.Compare(members[a].Name, members[b].Name) })
	return order
}

// placesOf is where in an order each number stands.
func placesOf(order []int) []int {
	places := make([]int, len(order))
	for place, which := range order {
		places[which] = place
	}
	return places
}

// groupText is what is summed of a group.
func groupText(members []api.Member, order, places []int) []byte {
	text := lay.Word(nil, []byte(groupWord))
	text = lay.Number(text, len(members))
	for _, which := range order {
		text = memberText(text, members[which], places)
	}
	return text
}

// memberText lays down a member behind what is there.
func memberText(text []byte, m api.Member, places []int) []byte {
	text = lay.Word(text, []byte(m.Name))
	text = lay.Number(text, len(m.Refs))
	for _, ref := range m.Refs {
		base, _ := label.Base(ref) // its name was checked
		text = lay.Word(text, []byte(base))
	}
	text = maskedText(text, m)
	text = lay.Number(text, len(m.Hits))
	for _, h := range m.Hits {
		text = lay.Number(text, h.At)
		text = lay.Number(text, places[h.Which])
	}
	return text
}

// maskedText lays down a member's archive, and masks it there: so it is copied once.
func maskedText(text []byte, m api.Member) []byte {
	from := len(text) + lay.NumberSize
	text = lay.Word(text, m.Ark)
	for _, h := range m.Hits {
		clear(text[from+h.At:][:api.Digits])
	}
	return text
}
