package desk

import (
	"fmt"
	"strings"
	"testing"

	"graft/api"
)

// P18.3: a text of commands plays alike whenever it is played; and a crash 0 A B behind a command changes no later answer.

// calm is a script without crashes and without faults.
func calm(seed uint64) []string {
	c := chance{sourceOf(seed)}
	var out []string
	w := newPlainWorld()
	for _, line := range split(pick(c.Rand, starts()...)) {
		w.play(line)
		out = append(out, line)
	}
	for range 40 {
		line := c.line()
		if !strings.HasPrefix(line, "crash") && w.play(line) == api.OK {
			out = append(out, line)
		}
	}
	return out
}

// withoutCrashes is a play's answers but for those of crashes.
func withoutCrashes(t *testing.T, commands string) string {
	t.Helper()
	var out []string
	for _, line := range told(t, commands) {
		if !strings.HasPrefix(line, "crash ") {
			out = append(out, line)
		}
	}
	return lines(out...)
}

func TestCrashesChangeNothing(t *testing.T) {
	for seed := range uint64(120) {
		c := chance{sourceOf(seed)}
		script := calm(seed)
		want := withoutCrashes(t, lines(script...))
		var often, seldom []string
		for _, line := range script {
			crash := fmt.Sprintf("crash 0 %s %s", c.number(), c.number())
			often = append(often, line, crash)
			seldom = append(seldom, line)
			if c.IntN(5) == 0 {
				seldom = append(seldom, crash)
			}
		}
		for _, crashes := range [][]string{often, seldom} {
			if got := withoutCrashes(t, lines(crashes...)); got != want {
				t.Fatalf("P18.3: %s\nanswers\n%s\nwant\n%s", lines(crashes...), got, want)
			}
		}
	}
}

func TestAgain(t *testing.T) {
	for seed := range uint64(60) {
		script := chance{sourceOf(seed)}.script(60)
		text, e, line := Play(script)
		Play(chance{sourceOf(seed + 1000)}.script(60))
		if again, e2, line2 := Play(script); again != text || e2 != e || line2 != line {
			t.Fatalf("P18.3: %s\nplays as\n%s\nand then as\n%s", script, text, again)
		}
	}
}

// A play's beginning answers what the play begins with.
func TestBeginnings(t *testing.T) {
	for seed := range uint64(30) {
		script := calm(seed)
		whole, _, _ := Play(lines(script...))
		for n := range script {
			text, e, line := Play(lines(script[:n]...))
			if !strings.HasPrefix(whole, text) || e != api.OK || line != 0 {
				t.Fatalf("P18.1: %d lines of\n%s\nanswer %d, %d and\n%s", n, lines(script...), e, line, text)
			}
		}
	}
}
