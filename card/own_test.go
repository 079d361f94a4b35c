package card

import (
	"fmt"
	"regexp"
	"strconv"
	"strings"
	"testing"

	"graft/api"
)

const ownText = "Store: /graft/store\nMass: 1\nPriority: 40\n"

var ownValues = []*regexp.Regexp{regexp.MustCompile(`^/graft/store$`), regexp.MustCompile(`^[01]$`), regexp.MustCompile(`^(0|[1-9][0-9]{0,5}|1000000)$`)}

// plainReadSign is ReadSign by the words of P10.9.
func plainReadSign(text string) (api.Sign, api.Errno, int) {
	if len(text) > 131072 {
		return api.Sign{}, api.ErrLong, 0
	}
	var said [3]string
	p := 0
	for i, name := range []string{"Store", "Mass", "Priority"} {
		n := strings.Index(text[p:], "\n")
		if n < 0 {
			return api.Sign{}, api.ErrShort, len(text)
		}
		line := text[p : p+n]
		if !strings.HasPrefix(line, name+": ") {
			return api.Sign{}, api.ErrLine, p
		}
		said[i] = line[len(name)+2:]
		if !ownValues[i].MatchString(said[i]) {
			return api.Sign{}, api.ErrField, p + len(name) + 2
		}
		p += n + 1
	}
	if p < len(text) {
		return api.Sign{}, api.ErrTail, p
	}
	priority, _ := strconv.Atoi(said[2])
	return api.Sign{Store: said[0], Mass: said[1] == "1", Priority: priority}, api.OK, 0
}

// holdReadSign holds ReadSign of a text against its plain reading, and that what it takes PrintSign prints.
func holdReadSign(t *testing.T, text string) {
	t.Helper()
	s, e, at := ReadSign(text)
	if want, we, wat := plainReadSign(text); s != want || e != we || at != wat {
		t.Fatalf("P10.9: ReadSign(%.300q) = %+v, %d, %d, want %+v, %d, %d", text, s, e, at, want, we, wat)
	}
	if back, pe := PrintSign(s); e == api.OK && (back != text || pe != api.OK) {
		t.Fatalf("P10.9: PrintSign of ReadSign(%q) = %q, %d", text, back, pe)
	}
}

// holdOwnFault holds ReadSign of a text that is refused.
func holdOwnFault(t *testing.T, text string, want api.Errno, place int) {
	t.Helper()
	if s, e, at := ReadSign(text); s != (api.Sign{}) || e != want || at != place {
		t.Errorf("P10.9: ReadSign(%.300q) = %+v, %d, %d, want %d, %d", text, s, e, at, want, place)
	}
	holdReadSign(t, text)
}

// P10.9: what may be printed, and back.
func TestOwn(t *testing.T) {
	for _, mass := range []bool{false, true} {
		for _, priority := range []int{0, 1, 9, 10, 40, 99, 100, 999999, 1000000} {
			s := api.Sign{Store: "/graft/store", Mass: mass, Priority: priority}
			m := 0
			if mass {
				m = 1
			}
			want := fmt.Sprintf("Store: /graft/store\nMass: %d\nPriority: %d\n", m, priority)
			if text, e := PrintSign(s); text != want || e != api.OK {
				t.Errorf("P10.9: PrintSign(%+v) = %q, %d", s, text, e)
			}
			if back, e, at := ReadSign(want); back != s || e != api.OK || at != 0 {
				t.Errorf("P10.9: ReadSign(%q) = %+v, %d, %d", want, back, e, at)
			}
		}
	}
}

// P10.9: what PrintSign refuses.
func TestOwnRefused(t *testing.T) {
	for _, s := range []api.Sign{
		{}, {Priority: 40}, {Store: "/graft/store/"}, {Store: "/graft/store/", Mass: true, Priority: 40}, {Store: "/graft/stor"}, {Store: "/nix/store"}, {Store: "graft/store"}, {Store: "/graft/store\n"}, {Store: " /graft/store"}, {Store: "/Graft/store"},
		{Store: "/graft/store", Priority: -1}, {Store: "/graft/store", Priority: 1000001}, {Store: "/graft/store", Priority: 1<<63 - 1}, {Store: "/graft/store", Mass: true, Priority: -1 << 63}, {Store: "x", Priority: -1},
	} {
		if text, e := PrintSign(s); text != "" || e != api.ErrField {
			t.Errorf("P10.9: PrintSign(%+v) = %q, %d", s, text, e)
		}
	}
}

// P10.9: cut short at every place, with something more.
func TestOwnCut(t *testing.T) {
	for n := range len(ownText) {
		holdOwnFault(t, ownText[:n], api.ErrShort, n)
	}
	for _, more := range []string{"\n", "x", "x\n", "Priority: 40\n", "Store: /graft/store\n", " ", "\x00", strings.Repeat("x", api.MaxCard-len(ownText))} {
		holdOwnFault(t, ownText+more, api.ErrTail, len(ownText))
	}
	holdOwnFault(t, ownText+strings.Repeat("x", api.MaxCard+1-len(ownText)), api.ErrLong, 0)
	holdOwnFault(t, strings.Repeat("x", api.MaxCard), api.ErrShort, api.MaxCard)
	holdOwnFault(t, strings.Repeat("x", api.MaxCard+1), api.ErrLong, 0)
	holdOwnFault(t, strings.Repeat("\n", api.MaxCard), api.ErrLine, 0)
	holdOwnFault(t, strings.Repeat("\n", api.MaxCard+1), api.ErrLong, 0)
}

// P10.9: each line wrong.
func TestOwnLines(t *testing.T) {
	p := 0
	for i, line := range []string{"Store: /graft/store\n", "Mass: 1\n", "Priority: 40\n"} {
		with := func(changed string) string { return ownText[:p] + changed + ownText[p+len(line):] }
		name, value, _ := strings.Cut(line, ": ")
		for _, wrong := range []string{"\n", "x\n", name + "\n", name + ":\n", name + ":" + value, name + " " + value, strings.ToLower(line), " " + line, name + ":\t" + value, name[1:] + ": " + value, name + "x: " + value} {
			holdOwnFault(t, with(wrong), api.ErrLine, p)
		}
		if i < 2 {
			holdOwnFault(t, with(""), api.ErrLine, p)
			holdOwnFault(t, with(line+line), api.ErrLine, p+len(line))
		}
		values := [][]string{
			{"", "/graft/store/", "/graft/stor", "graft/store", "/graft/store ", " /graft/store", "/nix/store", "/GRAFT/STORE", "/graft/store\r"},
			{"", "2", "-1", "01", "10", "true", "yes", " 1", "1 ", "00", "\x00", "+1"},
			{"", "040", "00", "-1", "-0", "+40", "1000001", "9999999", "10000000", "4 0", " 40", "40 ", "x", "4x", "0x4", "1_0", "1e3", "4.0", "18446744073709551656", strings.Repeat("9", 1000), "40\r"},
		}[i]
		for _, wrong := range values {
			holdOwnFault(t, with(name+": "+wrong+"\n"), api.ErrField, p+len(name)+2)
			// Ahead of what comes behind it.
			holdOwnFault(t, ownText[:p]+name+": "+wrong+"\n", api.ErrField, p+len(name)+2)
		}
		p += len(line)
	}
	holdOwnFault(t, "Store: x\nmass\n", api.ErrField, 7)
	holdOwnFault(t, "Mass: 1\nStore: /graft/store\nPriority: 40\n", api.ErrLine, 0)
	holdOwnFault(t, "Store: /graft/store\nPriority: 40\nMass: 1\n", api.ErrLine, 20)
}

// P10.9: every byte turned to every other, taken out, put in.
func TestOwnBytes(t *testing.T) {
	for _, text := range []string{ownText, "Store: /graft/store\nMass: 0\nPriority: 1000000\n", "Store: /graft/store\nMass: 0\nPriority: 0\n"} {
		holdReadSign(t, text)
		for i := range len(text) {
			for b := range 256 {
				holdReadSign(t, text[:i]+string([]byte{byte(b)})+text[i+1:])
				holdReadSign(t, text[:i]+string([]byte{byte(b)})+text[i:])
			}
			holdReadSign(t, text[:i]+text[i+1:])
		}
	}
	for priority := range 2100 {
		for _, n := range []int{priority, 1000000 - 1000 + priority} {
			holdReadSign(t, "Store: /graft/store\nMass: 0\nPriority: "+strconv.Itoa(n)+"\n")
		}
	}
}
