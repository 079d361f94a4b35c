package note

import (
	"slices"
	"strconv"
	"strings"
)

// isWay says whether a text is a way of RFC 6901.
func isWay(way string) bool {
	for i := range len(way) {
		if next := byteAt(way, i+1); way[i] == '~' && next != '0' && next != '1' {
			return false
		}
	}
	return way == "" || way[0] == '/'
}

// follow goes from a value down a way; false if it leads nowhere.
func follow(v value, way string) (value, bool) {
	for way != "" {
		part, rest := cutPart(way)
		next, ok := step(v, part)
		if !ok {
			return nil, false
		}
		v, way = next, rest
	}
	return v, true
}

// cutPart is what a way's first part means, and the way behind it.
func cutPart(way string) (string, string) {
	part, rest := way[1:], ""
	if i := strings.IndexByte(part, '/'); i >= 0 {
		part, rest = part[:i], part[i:]
	}
	// In this order, since a ~ that comes out of a ~0 begins nothing.
	part = strings.ReplaceAll(part, "~1", "/")
	return strings.ReplaceAll(part, "~0", "~"), rest
}

// step is what stands in a table or a list under that name or number.
func step(v value, part string) (value, bool) {
	if t, ok := v.(table); ok {
		i := slices.IndexFunc(t, func(f field) bool { return f.name == part })
		if i < 0 {
			return nil, false
		}
		return t[i].value, true
	}
	l, ok := v.(list)
	if !ok {
		return nil, false
	}
	i, err := strconv.Atoi(part)
	// Only one text of a number is its own: no sign, no leading 0.
	if err != nil || strconv.Itoa(i) != part || i < 0 || i >= len(l) {
		return nil, false
	}
	return l[i], true
}
