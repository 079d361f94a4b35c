package modulo

import (
	"crypto/sha256"
	"fmt"
	"strings"
	"testing"

	"graft/api"
	"graft/digest"
)

// P7.4 and the example 8: the values were made by another program.
func TestTexts(t *testing.T) {
	k := api.Sum{7}
	if got := Key(k, "out"); got != "07"+zeros[2:]+"!out" {
		t.Errorf("P7.4: Key = %s", got)
	}
	hash := Scratch(k, "out")
	if got := digest.Base32(hash[:]); got != "q2h5qvxygbz4qrdq5s9a929d7mm5an8w" {
		t.Errorf("P7.4: Scratch = %s", got)
	}
	if got := Stand("r", "out"); got != "/0034axxb5wwy28f4z8rvwqhci4bljc9rn7fivwcyih7n0fj69xvr" {
		t.Errorf("P7.4: Stand = %s", got)
	}
}

// P7.4: of any texts, names or not.
func TestTextsAny(t *testing.T) {
	stands := map[string]bool{}
	texts := []string{"", "a", "out", ":", "a:", ":a", "a:b", "!", "\x00\xff", y, strings.Repeat("n", 70000)}
	for i, output := range texts {
		k := api.Sum{byte(i), 0xab}
		k[31] = 0xcd
		hex := fmt.Sprintf("%x", k)
		if got := Key(k, output); got != hex+"!"+output {
			t.Errorf("P7.4: Key(.., %s) = %s", short(output), short(got))
		}
		if got := Scratch(k, output); got != digest.Fold(sha256.Sum256([]byte("scratch:"+hex+":"+output))) {
			t.Errorf("P7.4: Scratch(.., %s) = %x", short(output), got)
		}
		for _, recipe := range texts {
			sum := sha256.Sum256([]byte("stand:" + recipe + ":" + output))
			got := Stand(recipe, output)
			if got != "/"+digest.Base32(sum[:]) || len(got) != 53 || strings.Count(got, "/") != 1 {
				t.Errorf("P7.4: Stand(%s, %s) = %s", short(recipe), short(output), got)
			}
			stands[got] = true
		}
	}
	// One text of two and a colon may be cut in several ways: of these the sum is one.
	unlike := map[string]bool{}
	for _, a := range texts {
		for _, b := range texts {
			unlike[a+":"+b] = true
		}
	}
	if len(stands) != len(unlike) {
		t.Errorf("P7.4: %d stands of %d texts", len(stands), len(unlike))
	}
}
