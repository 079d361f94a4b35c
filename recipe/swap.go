package recipe

import (
	"slices"
	"sort"
	"strings"

	"graft/api"
)

// Swap puts other texts in the place of some in a recipe's arguments and environment.
func Swap(r api.Recipe, from, to []string) (api.Recipe, api.Errno) {
	if len(from) != len(to) {
		return api.Recipe{}, api.ErrArg
	}
	c := changesOf(from, to)
	if !c.apart() {
		return api.Recipe{}, api.ErrArg
	}
	out := copyOf(r)
	for i, arg := range out.Args {
		out.Args[i] = c.in(arg)
	}
	for i, pair := range out.Env {
		out.Env[i].Value = c.in(pair.Value)
	}
	return out, api.OK
}

// change is a text, and what comes in its place.
type change struct{ from, to string }

// changes are some, in the order of their froms.
type changes struct {
	list  []change
	least int // bytes of the shortest from
}

func changesOf(from, to []string) changes {
	c := changes{list: make([]change, len(from))}
	for i := range from {
		c.list[i] = change{from[i], to[i]}
		if i == 0 || len(from[i]) < c.least {
			c.least = len(from[i])
		}
	}
	slices.SortFunc(c.list, func(a, b change) int { return strings.Compare(a.from, b.from) })
	return c
}

// apart says whether no from is empty, and none is another one or a piece of it.
func (c changes) apart() bool {
	for i, x := range c.list {
		// What begins with a from comes at once behind it, so that neighbours show all beginnings.
		if x.from == "" || i > 0 && strings.HasPrefix(x.from, c.list[i-1].from) {
			return false
		}
	}
	for _, x := range c.list {
		if _, _, ok := c.first(x.from[1:]); ok {
			return false
		}
	}
	return true
}

// first is the first place of a text at which a from stands, and its change; false if there is none.
func (c changes) first(text string) (int, change, bool) {
	for at := 0; at+c.least <= len(text); at++ {
		if x, ok := c.ahead(text[at:]); ok {
			return at, x, true
		}
	}
	return 0, change{}, false
}

// ahead is the change of the from with which a text begins; false if there is none. As no from begins with another one,
// it can only be the last of those that are not behind the text in order.
func (c changes) ahead(text string) (change, bool) {
	behind := sort.Search(len(c.list), func(i int) bool { return c.list[i].from > text })
	if behind == 0 {
		return change{}, false
	}
	x := c.list[behind-1]
	return x, strings.HasPrefix(text, x.from)
}

// in is a text with its froms replaced.
func (c changes) in(text string) string {
	var out strings.Builder
	for {
		at, x, ok := c.first(text)
		if !ok {
			return out.String() + text
		}
		out.WriteString(text[:at])
		out.WriteString(x.to)
		text = text[at+len(x.from):]
	}
}
