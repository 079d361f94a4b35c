package card

import (
	"strconv"

	"graft/api"
)

// storeDirectory is where every store's objects lie: api.Store without the slash behind it.
const storeDirectory = "/graft/store"

// maxPriority is the greatest priority of a depot.
const maxPriority = 1000000

// printSign is the text of a depot's own card that may be one.
func printSign(s api.Sign) string {
	mass := "0"
	if s.Mass {
		mass = "1"
	}
	return printLine(fieldStore, s.Store) + printLine(fieldMass, mass) + printLine(fieldPriority, strconv.Itoa(s.Priority))
}

// readSign is the depot's own card that a text tells.
func readSign(text string) (api.Sign, error) {
	if len(text) > api.MaxCard {
		return api.Sign{}, fault{what: errLong}
	}
	var s api.Sign
	at := 0
	for field := fieldStore; field <= fieldPriority; field++ {
		_, value, err := firstLine(text[at:], field, field)
		if err == nil {
			err = takeSign(&s, field, value)
		}
		if err != nil {
			return api.Sign{}, inLine{at, err}
		}
		at += lengthOf(field, value)
	}
	if at < len(text) {
		return api.Sign{}, inLine{at, fault{what: errTail}}
	}
	return s, nil
}

// takeSign lays down in a depot's own card what a line says.
func takeSign(s *api.Sign, field int, value string) error {
	ok := false
	switch field {
	case fieldStore:
		s.Store, ok = value, value == storeDirectory
	case fieldMass:
		s.Mass, ok = value == "1", value == "0" || value == "1"
	case fieldPriority:
		s.Priority, ok = readNumber(value, maxPriority)
	}
	if !ok {
		return wrong(field)
	}
	return nil
}
