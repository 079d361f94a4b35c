package card

import (
	"errors"
	"strings"
	"testing"

	"graft/api"
)

// 10.5: Check's fault carries what is wrong and the number of the field.
func TestFault(t *testing.T) {
	if err := check(first()); err != nil {
		t.Errorf("check = %v", err)
	}
	for _, x := range turns() {
		if x.field == 0 {
			continue
		}
		c := first()
		x.do(&c)
		what := errField
		if x.field == 11 {
			what = errMark
		}
		var f fault
		err := check(c)
		if !errors.Is(err, what) || !errors.As(err, &f) || f.field != x.field {
			t.Errorf("10.5: %s: check = %v", x.what, err)
		}
	}
}

// 10.5: what is met in a line is wrapped by it.
func TestFaultInLine(t *testing.T) {
	for _, x := range []struct {
		text  string
		what  error
		begin int
		at    int
	}{
		{"", errShort, 0, 0}, {"Label", errShort, 0, 5}, {"label: x\n", errLine, 0, 0}, {"Label: x\n", errShort, 9, 0}, {"Label: x\nUrl: ", errShort, 9, 5},
		{firstText + "Maker: \n", errField, len(firstText), 7}, {firstText + "Mark: x\n", errMark, len(firstText), 6}, {firstText + "x\n", errLine, len(firstText), 0},
		{strings.Replace(firstText, "FileSize: 5", "FileSize: 05", 1), errField, strings.Index(firstText, "FileSize"), 10},
		{strings.Replace(firstText, "none", "zip", 1), errField, strings.Index(firstText, "Press"), 7},
		{firstText + "Mark: a:x\nMark: b:x\n", errMark, len(firstText), 6},
	} {
		_, err := readCard(x.text)
		var (
			f    fault
			line inLine
		)
		if !errors.Is(err, x.what) || !errors.As(err, &f) || !errors.As(err, &line) || line.begin != x.begin || f.at != x.at {
			t.Errorf("10.5: %q: %v", x.text, err)
		}
	}
	_, err := readSign(ownText + "x")
	if line := (inLine{}); !errors.Is(err, errTail) || !errors.As(err, &line) || line.begin != len(ownText) {
		t.Errorf("10.5: %v", err)
	}
}

// 10.5: an error tells in words what is wrong and where.
func TestFaultWords(t *testing.T) {
	_, err := readCard(firstText + "Maker: \n")
	if words := err.Error(); !strings.Contains(words, errField.Error()) || !strings.Contains(words, "field 9") || !strings.Contains(words, "byte 7") || !strings.Contains(words, "line at") {
		t.Errorf("10.5: %s", words)
	}
	_, err = readCard(strings.Repeat("x", api.MaxCard+1))
	if !errors.Is(err, errLong) || errnoOf(err) != api.ErrLong || placeOf(err) != 0 {
		t.Errorf("10.5: %v", err)
	}
}
