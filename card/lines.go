package card

import (
	"strconv"
	"strings"
)

// The fields' numbers: a card's, and behind them those of a depot's own card.
const (
	noField = iota
	fieldLabel
	fieldUrl
	fieldPress
	fieldFileSum
	fieldFileSize
	fieldArkSum
	fieldArkSize
	fieldRefs
	fieldMaker
	fieldCa
	fieldMarks
	fieldStore
	fieldMass
	fieldPriority
	fieldCount
)

// heads is what each field's line begins with. Each reference has its own blank ahead, so that of Refs has none.
var heads = [fieldCount]string{
	fieldLabel:    "Label: ",
	fieldUrl:      "Url: ",
	fieldPress:    "Press: ",
	fieldFileSum:  "FileSum: ",
	fieldFileSize: "FileSize: ",
	fieldArkSum:   "ArkSum: ",
	fieldArkSize:  "ArkSize: ",
	fieldRefs:     "Refs:",
	fieldMaker:    "Maker: ",
	fieldCa:       "Ca: ",
	fieldMarks:    "Mark: ",
	fieldStore:    "Store: ",
	fieldMass:     "Mass: ",
	fieldPriority: "Priority: ",
}

// printLine is a field's line.
func printLine(field int, value string) string { return heads[field] + value + "\n" }

// lengthOf is how many bytes a field's line has.
func lengthOf(field int, value string) int { return len(heads[field]) + len(value) + len("\n") }

// firstLine reads a text's first line, which must be that of one of the fields from first to last: which one,
// and what stands behind its head.
func firstLine(text string, first, last int) (int, string, error) {
	line, _, whole := strings.Cut(text, "\n")
	if !whole {
		return noField, "", fault{what: errShort, at: len(text)}
	}
	for field := first; field <= last; field++ {
		if value, ok := strings.CutPrefix(line, heads[field]); ok {
			return field, value, nil
		}
	}
	return noField, "", fault{what: errLine}
}

// readNumber reads a decimal number from 0 to most without a 0 ahead; false if it is none.
func readNumber(text string, most int) (int, bool) {
	n, err := strconv.Atoi(text)
	if err != nil || n < 0 || n > most || strconv.Itoa(n) != text {
		return 0, false
	}
	return n, true
}
