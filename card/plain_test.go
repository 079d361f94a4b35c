package card

import (
	"crypto/hmac"
	"crypto/sha256"
	"encoding/base64"
	"fmt"
	"math/rand/v2"
	"reflect"
	"regexp"
	"slices"
	"strconv"
	"strings"
	"testing"

	"graft/api"
)

const (
	zeros = "00000000000000000000000000000000"
	baseB = zeros + "-x"
	textL = "/graft/store/" + baseB
	sumS  = "sha256:0000000000000000000000000000000000000000000000000000"
	sumT  = "sha256:1zzzzzzzzzzzzzzzzzzzzzzzzzzzzzzzzzzzzzzzzzzzzzzzzzzz"
	tagA  = "AAAAAAAAAAAAAAAAAAAAAAAAAAAAAAAAAAAAAAAAAAA="
	tagB  = "//////////////////////////////////////////8="
)

// first is the card of the first example.
func first() api.Card {
	return api.Card{Label: textL, Url: "ark/x.ark", Press: "none", FileSum: sumS, FileSize: 5, ArkSum: sumS, ArkSize: 5}
}

// firstText is its text.
const firstText = "Label: " + textL + "\nUrl: ark/x.ark\nPress: none\nFileSum: " + sumS + "\nFileSize: 5\nArkSum: " + sumS + "\nArkSize: 5\nRefs:\n"

// full is a card with something in each field.
func full() api.Card {
	return api.Card{
		Label: textL, Url: "a/b.c", Press: "gzip", FileSum: sumT, FileSize: 123456, ArkSum: sumS, ArkSize: 1048576,
		Refs: []string{baseB, zeros + "-x.1", zeros[1:] + "1-a"}, Maker: zeros + "-x.recipe", Ca: "group",
		Marks: []api.Mark{{Key: "K", Tag: tagB}, {Key: "k", Tag: tagA}, {Key: "k2", Tag: tagB}},
	}
}

// fullText is its text.
const fullText = "Label: " + textL + "\nUrl: a/b.c\nPress: gzip\nFileSum: " + sumT + "\nFileSize: 123456\nArkSum: " + sumS + "\nArkSize: 1048576\n" +
	"Refs: " + baseB + " " + zeros + "-x.1 0000000000000000000000000000000" + "1-a\nMaker: " + zeros + "-x.recipe\nCa: group\nMark: K:" + tagB + "\nMark: k:" + tagA + "\nMark: k2:" + tagB + "\n"

const nameForm = `[A-Za-z0-9+_?=-][A-Za-z0-9+_?=.-]{0,210}`

var (
	nameText  = regexp.MustCompile(`^` + nameForm + `$`)
	baseText  = regexp.MustCompile(`^[0-9abcdfghijklmnpqrsvwxyz]{32}-` + nameForm + `$`)
	labelText = regexp.MustCompile(`^/graft/store/[0-9abcdfghijklmnpqrsvwxyz]{32}-` + nameForm + `$`)
	urlText   = regexp.MustCompile(`^` + nameForm + `(/` + nameForm + `)*$`)
	sumText   = regexp.MustCompile(`^sha256:[01][0-9abcdfghijklmnpqrsvwxyz]{51}$`)
	tagText   = regexp.MustCompile(`^[A-Za-z0-9+/]{42}[AEIMQUYcgkosw048]=$`)
	sizeText  = regexp.MustCompile(`^(0|[1-9][0-9]{0,8})$`)
)

// plainFields is what P10.1 says of each field, in order.
func plainFields(c api.Card) []bool {
	none := c.Press == "none"
	refs, marks := len(c.Refs) <= 256, len(c.Marks) <= 16
	for i, r := range c.Refs {
		refs = refs && baseText.MatchString(r) && (i == 0 || c.Refs[i-1] < r)
	}
	for i, m := range c.Marks {
		marks = marks && nameText.MatchString(m.Key) && tagText.MatchString(m.Tag) && (i == 0 || c.Marks[i-1].Key < m.Key)
	}
	return []bool{
		labelText.MatchString(c.Label),
		urlText.MatchString(c.Url) && len(c.Url) <= 255,
		none || c.Press == "gzip",
		sumText.MatchString(c.FileSum) && (!none || c.FileSum == c.ArkSum),
		0 <= c.FileSize && c.FileSize <= 2097152 && (!none || c.FileSize == c.ArkSize),
		sumText.MatchString(c.ArkSum),
		0 <= c.ArkSize && c.ArkSize <= 1048576,
		refs,
		c.Maker == "" || baseText.MatchString(c.Maker),
		slices.Contains([]string{"", "text", "source", "group", "flat"}, c.Ca),
		marks,
	}
}

// plainCheck is Check by the words of P10.1.
func plainCheck(c api.Card) (api.Errno, int) {
	switch n := slices.Index(plainFields(c), false) + 1; n {
	case 0:
		return api.OK, 0
	case 11:
		return api.ErrMark, n
	default:
		return api.ErrField, n
	}
}

// plainText is the text of P10.2, of any card.
func plainText(c api.Card) string {
	text := fmt.Sprintf("Label: %s\nUrl: %s\nPress: %s\nFileSum: %s\nFileSize: %d\nArkSum: %s\nArkSize: %d\nRefs:", c.Label, c.Url, c.Press, c.FileSum, c.FileSize, c.ArkSum, c.ArkSize)
	for _, r := range c.Refs {
		text += " " + r
	}
	text += "\n"
	if c.Maker != "" {
		text += "Maker: " + c.Maker + "\n"
	}
	if c.Ca != "" {
		text += "Ca: " + c.Ca + "\n"
	}
	for _, m := range c.Marks {
		text += "Mark: " + m.Key + ":" + m.Tag + "\n"
	}
	return text
}

// plainSays is the text of P10.5, of any card.
func plainSays(c api.Card) string {
	return fmt.Sprintf("card-1;%s;%s;%d;%s;%s;%s", c.Label, c.ArkSum, c.ArkSize, strings.Join(c.Refs, ","), c.Maker, c.Ca)
}

// plainTag is the mark of a secret on what was said, by the library.
func plainTag(secret, said string) string {
	m := hmac.New(sha256.New, []byte(secret))
	m.Write([]byte(said))
	return base64.StdEncoding.EncodeToString(m.Sum(nil))
}

// plainReader reads a text by the words of P10.3.
type plainReader struct {
	card  api.Card
	place map[int]int // by a field's number: behind the blank of its line
	came  int         // the number of the field whose line came last
}

// the names of the lines, by their numbers.
var lineNames = []string{"", "Label", "Url", "Press", "FileSum", "FileSize", "ArkSum", "ArkSize", "Refs", "Maker", "Ca", "Mark"}

// may is which lines may come.
func (r *plainReader) may() []int {
	switch {
	case r.came < 8:
		return []int{r.came + 1}
	case r.came == 8:
		return []int{9, 10, 11}
	case r.came == 9:
		return []int{10, 11}
	}
	return []int{11}
}

// line reads a line that begins at p.
func (r *plainReader) line(line string, p int) (api.Errno, int) {
	number := -1
	var said string
	for _, n := range r.may() {
		begin := lineNames[n] + ": "
		if n == 8 {
			begin = "Refs:"
		}
		if strings.HasPrefix(line, begin) {
			number, said = n, line[len(begin):]
		}
	}
	if number < 0 {
		return api.ErrLine, p
	}
	at := p + len(line) - len(said)
	if _, again := r.place[number]; !again {
		r.place[number] = at
	}
	r.came = number
	c := &r.card
	switch number {
	case 5, 7:
		if !sizeText.MatchString(said) {
			return api.ErrField, at
		}
	case 8:
		if said != "" && said[0] != ' ' {
			return api.ErrField, at
		}
		c.Refs = strings.Split(said, " ")[1:]
	case 9, 10:
		if said == "" {
			return api.ErrField, at
		}
	case 11:
		colon := strings.Index(said, ":")
		if colon < 0 {
			return api.ErrMark, at
		}
		c.Marks = append(c.Marks, api.Mark{Key: said[:colon], Tag: said[colon+1:]})
	}
	if into := []*string{1: &c.Label, 2: &c.Url, 3: &c.Press, 4: &c.FileSum, 6: &c.ArkSum, 9: &c.Maker, 10: &c.Ca, 11: nil}[number]; into != nil {
		*into = said
	}
	if into := []*int{5: &c.FileSize, 7: &c.ArkSize, 11: nil}[number]; into != nil {
		*into, _ = strconv.Atoi(said)
	}
	return api.OK, 0
}

// plainRead is Read by the words of P10.3.
func plainRead(text string) (api.Card, api.Errno, int) {
	if len(text) > 131072 {
		return api.Card{}, api.ErrLong, 0
	}
	r := plainReader{place: map[int]int{}}
	for p := 0; r.came < 8 || p < len(text); {
		n := strings.Index(text[p:], "\n")
		if n < 0 {
			return api.Card{}, api.ErrShort, len(text)
		}
		if e, at := r.line(text[p:p+n], p); e != api.OK {
			return api.Card{}, e, at
		}
		p += n + 1
	}
	if e, n := plainCheck(r.card); e != api.OK {
		return api.Card{}, e, r.place[n]
	}
	return r.card, api.OK, 0
}

// same tells whether two cards are: nil and empty lists are the same.
func same(a, b api.Card) bool {
	if !slices.Equal(a.Refs, b.Refs) || !slices.Equal(a.Marks, b.Marks) {
		return false
	}
	a.Refs, a.Marks, b.Refs, b.Marks = nil, nil, nil, nil
	return reflect.DeepEqual(a, b)
}

// holdRead holds Read of a text against its plain reading, and P10.4.
func holdRead(t *testing.T, text string) {
	t.Helper()
	c, e, at := Read(text)
	want, we, wat := plainRead(text)
	if !same(c, want) || e != we || at != wat {
		t.Fatalf("Read(%.1200q) = %+v, %d, %d, want %+v, %d, %d", text, c, e, at, want, we, wat)
	}
	if e != api.OK && !reflect.DeepEqual(c, api.Card{}) {
		t.Fatalf("Read(%.1200q) = %+v beside the error %d", text, c, e)
	}
	if e != api.OK {
		return
	}
	if back, e, n := Print(c); back != text || e != api.OK || n != 0 {
		t.Fatalf("P10.4: Print of Read(%.1200q) = %.1200q, %d, %d", text, back, e, n)
	}
}

// holdCard holds Check, Print, Says and Sign of a card, and Read of its text, against plain readings.
func holdCard(t *testing.T, c api.Card) {
	t.Helper()
	we, wn := plainCheck(c)
	if e, n := Check(c); e != we || n != wn {
		t.Fatalf("P10.1: Check(%+v) = %d, %d, want %d, %d", c, e, n, we, wn)
	}
	text, said := plainText(c), plainSays(c)
	if we == api.OK {
		if back, e, at := Read(text); !same(back, c) || e != api.OK || at != 0 {
			t.Fatalf("P10.4: Read(Print(%+v)) = %+v, %d, %d", c, back, e, at)
		}
	} else {
		text, said = "", ""
	}
	if got, e, n := Print(c); got != text || e != we || n != wn {
		t.Fatalf("P10.2: Print(%+v) = %q, %d, %d, want %q, %d, %d", c, got, e, n, text, we, wn)
	}
	if got, e := Says(c); got != said || e != we {
		t.Fatalf("P10.5: Says(%+v) = %q, %d, want %q, %d", c, got, e, said, we)
	}
	holdSign(t, c, api.Key{Name: "k", Secret: []byte("secret")})
	holdRead(t, plainText(c))
}

// plainSign is Sign by the words of P10.6.
func plainSign(c api.Card, k api.Key) (api.Card, api.Errno) {
	if e, _ := plainCheck(c); e != api.OK {
		return api.Card{}, e
	}
	others := slices.DeleteFunc(slices.Clone(c.Marks), func(m api.Mark) bool { return m.Key == k.Name })
	switch {
	case !nameText.MatchString(k.Name):
		return api.Card{}, api.ErrMark
	case len(k.Secret) < 1 || len(k.Secret) > 255:
		return api.Card{}, api.ErrArg
	case len(others) == 16:
		return api.Card{}, api.ErrFull
	}
	c.Marks = append(others, api.Mark{Key: k.Name, Tag: plainTag(string(k.Secret), plainSays(c))})
	slices.SortFunc(c.Marks, func(a, b api.Mark) int { return strings.Compare(a.Key, b.Key) })
	return c, api.OK
}

// holdSign holds Sign, and Proves of what it answers, against plain readings.
func holdSign(t *testing.T, c api.Card, k api.Key) {
	t.Helper()
	want, we := plainSign(c, k)
	got, e := Sign(c, k)
	if !same(got, want) || e != we {
		t.Fatalf("P10.6: Sign(%+v, %q) = %+v, %d, want %+v, %d", c, k, got, e, want, we)
	}
	if e != api.OK && !reflect.DeepEqual(got, api.Card{}) {
		t.Fatalf("P10.6: Sign(%+v, %q) = %+v beside the error %d", c, k, got, e)
	}
	if proves := Proves(got, []api.Key{k}); proves != (e == api.OK) {
		t.Fatalf("P10.7: Proves(%+v, %q) = %t", got, k, proves)
	}
}

func sourceOf(seed uint64) *rand.Rand { return rand.New(rand.NewPCG(seed, 10)) }

func pick[T any](r *rand.Rand, list ...T) T { return list[r.IntN(len(list))] }

// someBase is a label's base.
func someBase(r *rand.Rand) string {
	hash := []byte(zeros)
	for range r.IntN(4) {
		hash[r.IntN(32)] = "0123456789abcdfghijklmnpqrsvwxyz"[r.IntN(32)]
	}
	return string(hash) + "-" + pick(r, "a", "x", "x.1", "-", "Z", "a-b_c+d?e=f", strings.Repeat("n", 211))
}

// someCard is a card that may be.
func someCard(r *rand.Rand) api.Card {
	c := api.Card{Label: "/graft/store/" + someBase(r), Url: pick(r, "a", "a/b", "x.ark", "a/b/c-d"), Press: pick(r, "none", "gzip")}
	c.ArkSum, c.ArkSize = pick(r, sumS, sumT), pick(r, 0, 7, 1048576, r.IntN(1048577))
	c.FileSum, c.FileSize = c.ArkSum, c.ArkSize
	if c.Press == "gzip" {
		c.FileSum, c.FileSize = pick(r, sumS, sumT), pick(r, 0, 9, 2097152, r.IntN(2097153))
	}
	for range pick(r, 0, 1, 5) {
		c.Refs = append(c.Refs, someBase(r))
	}
	slices.Sort(c.Refs)
	c.Refs = slices.Compact(c.Refs)
	c.Maker, c.Ca = pick(r, "", someBase(r)), pick(r, "", "text", "source", "group", "flat")
	for _, key := range []string{"+", "1", "K", "k", "k.", "ka", "z"} {
		if r.IntN(3) == 0 {
			c.Marks = append(c.Marks, api.Mark{Key: key, Tag: pick(r, tagA, tagB)})
		}
	}
	return c
}
