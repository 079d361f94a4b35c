package note

import (
	"os"
	"path/filepath"
	"strings"
	"testing"
)

// Numbers are made by own arithmetic: the library's conversions of floats stand nowhere but in tests.
func TestOwnArithmetic(t *testing.T) {
	files, _ := filepath.Glob("*.go")
	looked := 0
	for _, file := range files {
		if strings.HasSuffix(file, "_test.go") {
			continue
		}
		text, err := os.ReadFile(file)
		if err != nil {
			t.Fatal(err)
		}
		looked++
		for _, word := range []string{"ParseFloat", "FormatFloat", "AppendFloat", "SetFloat64", "big.Float", "big.Rat", "Float64frombits", "Float64bits", ".Float64(", "Frexp", "Ldexp"} {
			if strings.Contains(string(text), word) {
				t.Errorf("%s has %s", file, word)
			}
		}
	}
	if looked == 0 {
		t.Error("no file was looked at")
	}
}
