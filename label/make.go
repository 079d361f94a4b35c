package label

import (
	"graft/api"
	"graft/digest"
)

// mainOut is the output that is called as its recipe is, without a word behind.
const mainOut = "out"

// aheadOfFixed stands ahead of the sum that is known of a flat object.
const aheadOfFixed = "fixed:out:sha256:"

// Call is the label that a fingerprint makes.
func Call(f api.Finger) (api.Label, api.Errno) {
	text, e := Say(f)
	if e != api.OK {
		return api.Label{}, e
	}
	return api.Label{Hash: digest.Fold(digest.Of([]byte(text))), Name: f.Name}, api.OK
}

// Text is the label of a text.
func Text(name string, data []byte, refs []api.Label) (api.Label, api.Errno) {
	return Call(api.Finger{Kind: kindText, Refs: refs, Inner: digest.Of(data), Name: name})
}

// Source is the label of a tree whose archive has this sum.
func Source(name string, ark api.Sum, refs []api.Label, self bool) (api.Label, api.Errno) {
	return Call(api.Finger{Kind: kindSource, Refs: refs, Self: self, Inner: ark, Name: name})
}

// Fixed is the label of an object whose content's sum is known ahead.
func Fixed(name string, sum api.Sum, flat bool) (api.Label, api.Errno) {
	if !flat {
		return Source(name, sum, nil, false)
	}
	inner := digest.Of([]byte(aheadOfFixed + digest.Hex(sum[:]) + ":"))
	return Call(api.Finger{Kind: kindOutput, Out: mainOut, Inner: inner, Name: name})
}

// Output is the label of a recipe's output.
func Output(hash api.Sum, out, name string) (api.Label, api.Errno) {
	// Both are checked alone: Say would ask for the name that comes of both ahead of all else.
	if e, _ := Check(name); e != api.OK {
		return api.Label{}, e
	}
	if e, _ := Check(out); e != api.OK {
		return api.Label{}, e
	}
	if out != mainOut {
		name += "-" + out
	}
	return Call(api.Finger{Kind: kindOutput, Out: out, Inner: hash, Name: name})
}

// Member is the label of a group's member.
func Member(group api.Sum, index int, name string) (api.Label, api.Errno) {
	return Call(api.Finger{Kind: kindMember, Index: index, Inner: group, Name: name})
}
