package card

import (
	"strconv"
	"strings"

	"graft/api"
)

// maxRead is the greatest size that a card's line can tell: it has nine digits.
const maxRead = 999999999

// printCard is the text of a card that may be one.
func printCard(c api.Card) string {
	var text strings.Builder
	text.WriteString(printLine(fieldLabel, c.Label))
	text.WriteString(printLine(fieldUrl, c.Url))
	text.WriteString(printLine(fieldPress, c.Press))
	text.WriteString(printLine(fieldFileSum, c.FileSum))
	text.WriteString(printLine(fieldFileSize, strconv.Itoa(c.FileSize)))
	text.WriteString(printLine(fieldArkSum, c.ArkSum))
	text.WriteString(printLine(fieldArkSize, strconv.Itoa(c.ArkSize)))
	text.WriteString(printLine(fieldRefs, printRefs(c.Refs)))
	if c.Maker != "" {
		text.WriteString(printLine(fieldMaker, c.Maker))
	}
	if c.Ca != "" {
		text.WriteString(printLine(fieldCa, c.Ca))
	}
	for _, m := range c.Marks {
		text.WriteString(printLine(fieldMarks, m.Key+":"+m.Tag))
	}
	return text.String()
}

// printRefs is references with a blank ahead of each.
func printRefs(refs []string) string {
	var text strings.Builder
	for _, ref := range refs {
		text.WriteString(" " + ref)
	}
	return text.String()
}

// readCard is the card that a text tells.
func readCard(text string) (api.Card, error) {
	if len(text) > api.MaxCard {
		return api.Card{}, fault{what: errLong}
	}
	var (
		c      api.Card
		begins [fieldMarks + 1]int // where each field's line begins; of the marks that of the first one
		at     int
	)
	for next := fieldLabel; next <= fieldRefs || at < len(text); {
		field, value, err := firstLine(text[at:], next, lastFor(next))
		if err == nil {
			err = take(&c, field, value)
		}
		if err != nil {
			return api.Card{}, inLine{at, err}
		}
		if begins[field] == 0 {
			begins[field] = at
		}
		at += lengthOf(field, value)
		next = min(field+1, fieldMarks)
	}
	if err := check(c); err != nil {
		return api.Card{}, inLine{begins[fieldOf(err)], err}
	}
	return c, nil
}

// lastFor is the last field whose line may come where that of the field next may: of those that must come there is no choice.
func lastFor(next int) int {
	if next <= fieldRefs {
		return next
	}
	return fieldMarks
}

// take lays down in a card what a line says.
func take(c *api.Card, field int, value string) error {
	ok := true
	switch field {
	case fieldLabel:
		c.Label = value
	case fieldUrl:
		c.Url = value
	case fieldPress:
		c.Press = value
	case fieldFileSum:
		c.FileSum = value
	case fieldFileSize:
		c.FileSize, ok = readNumber(value, maxRead)
	case fieldArkSum:
		c.ArkSum = value
	case fieldArkSize:
		c.ArkSize, ok = readNumber(value, maxRead)
	case fieldRefs:
		c.Refs, ok = readRefs(value)
	case fieldMaker:
		c.Maker, ok = value, value != ""
	case fieldCa:
		c.Ca, ok = value, value != ""
	case fieldMarks:
		c.Marks, ok = addMark(c.Marks, value)
	}
	if !ok {
		return wrong(field)
	}
	return nil
}

// readRefs reads references with a blank ahead of each; false if something stands ahead of the first blank.
func readRefs(value string) ([]string, bool) {
	if value == "" {
		return nil, true
	}
	refs, ok := strings.CutPrefix(value, " ")
	if !ok {
		return nil, false
	}
	return strings.Split(refs, " "), true
}

// addMark is marks with one more behind them; false if it has no colon.
func addMark(marks []api.Mark, value string) ([]api.Mark, bool) {
	key, tag, ok := strings.Cut(value, ":")
	if !ok {
		return nil, false
	}
	return append(marks, api.Mark{Key: key, Tag: tag}), true
}
