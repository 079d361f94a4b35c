package journal

import (
	"fmt"
	"math/rand/v2"
	"strings"
	"testing"

	"graft/api"
)

const most = uint64(1) << 62

// holdReplay holds what Replay answers against the plain reading, and answers it.
func holdReplay(t *testing.T, what string, files ...string) verdict {
	t.Helper()
	d := diskOf(files...)
	got, want := replayed(d), plainReplay(filesOf(d))
	if got != want {
		t.Errorf("P11.5: %s: Replay = %.300v, want %.300v", what, got, want)
	}
	return got
}

// beside is a disk with this file at a place, and another one.
func beside(file int, data, other string) []string {
	if file == 0 {
		return []string{data, other}
	}
	return []string{other, data}
}

// spoilt holds that a file is spoilt at a place, as either file of a disk.
func spoilt(t *testing.T, what, data string, at int) {
	t.Helper()
	e := api.ErrRecord
	if at == 0 {
		e = api.ErrJournal
	}
	for file := range 2 {
		if got := holdReplay(t, what, beside(file, data, "")...); got != refusal(e, file, at) {
			t.Errorf("P11.4: %s as file %d: %.300v, want %d at %d", what, file, got, e, at)
		}
	}
}

// tells holds what a file that is not spoilt tells, as either file of a disk; one without good bytes is not live.
func tells(t *testing.T, what, data string, good int, gen, first uint64, base []string, batches [][]string) {
	t.Helper()
	for file := range 2 {
		want := telling(file, good, gen, first, base, batches)
		if good == 0 {
			want = telling(-1, 0, 0, 0, nil, nil)
		}
		if got := holdReplay(t, what, beside(file, data, "")...); got.e != api.OK || got.file != 0 || got.at != 0 || got.told != want {
			t.Errorf("P11.4: %s as file %d: %.300v, want %.300s", what, file, got, want)
		}
	}
}

// torn holds that a file without a whole base is neither live nor spoilt.
func torn(t *testing.T, what, data string) {
	t.Helper()
	tells(t, what, data, 0, 0, 0, nil, nil)
}

// small is a file with a base of two and three batches, and where its records begin.
func small() (string, []int) {
	parts := []string{
		headOf(3, 7), rec(2, 0, "base"), rec(2, 1, ""), rec(3, 2, ""),
		rec(4, 0, "one"), rec(4, 1, "two!"), commitOf(7, 2),
		commitOf(8, 0),
		rec(4, 0, ""), commitOf(9, 1),
	}
	var places []int
	text := ""
	for _, p := range parts {
		places = append(places, len(text))
		text += p
	}
	return text, places
}

// recordAt is where the record begins in which a byte lies.
func recordAt(places []int, at int) int {
	found := 0
	for _, p := range places {
		if p <= at {
			found = p
		}
	}
	return found
}

func TestReplayWhole(t *testing.T) {
	text, _ := small()
	tells(t, "small", text, len(text), 3, 7, []string{"base", ""}, [][]string{{"one", "two!"}, nil, {""}})
	tells(t, "no batches", headOf(1, 1)+baseOf(), 52, 1, 1, nil, nil)
	tells(t, "no bytes", "", 0, 0, 0, nil, nil)
	if got := holdReplay(t, "nothing", "", ""); got.e != api.OK || got.told != telling(-1, 0, 0, 0, nil, nil) {
		t.Errorf("P11.5: nothing: %v", got)
	}
}

// P11.4: each byte of each record wrong, in every way: the record is spoilt; none of these is taken for torn.
func TestReplayEveryByte(t *testing.T) {
	text, places := small()
	for i := range len(text) {
		for x := 1; x < 256; x++ {
			wrong := []byte(text)
			wrong[i] ^= byte(x)
			spoilt(t, fmt.Sprintf("byte %d turned by %d", i, x), string(wrong), recordAt(places, i))
		}
	}
}

// P11.4: a file cut off at every byte: what is whole ahead of it is told.
func TestReplayCutOff(t *testing.T) {
	text, places := small()
	ends := append(places[1:], len(text))
	batches := [][]string{{"one", "two!"}, nil, {""}}
	for n := range len(text) + 1 {
		good, whole := 0, 0
		for i, end := range ends {
			if end <= n && i >= 3 && i != 4 && i != 5 && i != 8 { // base's end, the commits
				good = end
				whole = []int{0, 0, 0, 0, 0, 0, 1, 2, 2, 3}[i]
			}
		}
		tells(t, fmt.Sprint("cut off at ", n), text[:n], good, 3, 7, []string{"base", ""}, batches[:whole])
	}
}

// P11.4: bytes behind a file's good end: torn, if they begin as a record that may stand there, else spoilt.
func TestReplayTails(t *testing.T) {
	whole := headOf(1, 1) + baseOf("b") + batchOf(1, "x")
	for i, next := range []string{rec(4, 0, "abc"), rec(4, 0, ""), commitOf(2, 0)} {
		for n := range len(next) {
			tells(t, fmt.Sprintf("tail %d, %d bytes", i, n), whole+next[:n], len(whole), 1, 1, []string{"b"}, [][]string{{"x"}})
		}
	}
	for i, next := range []string{rec(4, 1, "abc"), commitOf(1, 0), commitOf(3, 0), headOf(2, 2), rec(2, 0, ""), rec(3, 1, ""), rec(0, 0, ""), rec(6, 0, ""), rec(4, 0, "abc")[1:], strings.Repeat("\x9e", 30)} {
		for n := 1; n <= len(next); n++ {
			what := fmt.Sprintf("wrong tail %d, %d bytes", i, n)
			if n < 18 && next[0] == 0x9e {
				tells(t, what, whole+next[:n], len(whole), 1, 1, []string{"b"}, [][]string{{"x"}})
			} else {
				spoilt(t, what, whole+next[:n], len(whole))
			}
		}
	}
}

// P11.4: r below 18 is torn whatever stands there behind byte 0; from 18 on the front counts ahead of the body's end.
func TestReplayFrontAheadOfBody(t *testing.T) {
	for n := 1; n < 18; n++ {
		torn(t, fmt.Sprint("marks, ", n), strings.Repeat("\x9e", n))
		spoilt(t, fmt.Sprint("zeros, ", n), strings.Repeat("\x00", n), 0)
		spoilt(t, fmt.Sprint("others, ", n), "\x9f"+strings.Repeat("\x9e", n-1), 0)
	}
	front := func(kind byte, number uint64, length int) string {
		return rec(kind, number, strings.Repeat("x", length))[:18]
	}
	begun := headOf(1, 1)
	live := begun + baseOf()
	torn(t, "a head's front", front(1, 5, 8))
	torn(t, "a base record's front", begun+front(2, 0, 100))
	tells(t, "a payload's front", live+front(4, 0, 100), 52, 1, 1, nil, nil)
	tells(t, "a payload but for a byte", live+rec(4, 0, "abc")[:24], 52, 1, 1, nil, nil)
	spoilt(t, "a front whose number is wrong", live+front(4, 1, 100), 52)
	spoilt(t, "a front whose length is wrong", live+front(5, 1, 5), 52)
	spoilt(t, "a front whose sum is wrong", live+front(4, 0, 100)[:17]+"?", 52)
}

// P11.4: what may stand at each place: kinds, numbers, lengths.
func TestReplayGrammar(t *testing.T) {
	begun, live := headOf(1, 1), headOf(1, 1)+baseOf("b")
	for _, place := range []struct {
		what     string
		ahead    string
		payloads int
		may      func(kind int, number uint64, length int) bool
	}{
		{"the beginning", "", 0, func(kind int, number uint64, length int) bool {
			return kind == 1 && number >= 1 && number <= most && length == 8
		}},
		{"behind the head", begun, 0, func(kind int, number uint64, length int) bool {
			return number == 0 && (kind == 2 || kind == 3 && length == 0)
		}},
		{"behind a base record", begun + rec(2, 0, "b"), 0, func(kind int, number uint64, length int) bool {
			return number == 1 && (kind == 2 || kind == 3 && length == 0)
		}},
		{"behind the base's end", live, 0, func(kind int, number uint64, length int) bool {
			return kind == 4 && number == 0 || kind == 5 && number == 1 && length == 4
		}},
		{"behind a payload", live + rec(4, 0, "p"), 1, func(kind int, number uint64, length int) bool {
			return kind == 4 && number == 1 || kind == 5 && number == 1 && length == 4
		}},
		{"behind a commit", live + batchOf(1, "p"), 0, func(kind int, number uint64, length int) bool {
			return kind == 4 && number == 0 || kind == 5 && number == 2 && length == 4
		}},
	} {
		for kind := range 256 {
			for _, number := range []uint64{0, 1, 2, 3, 255, 256, most - 1, most, most + 1, 1 << 63, 1<<64 - 1} {
				for length := range 10 {
					body := []string{4: four(place.payloads), 8: eight(1), 9: ""}[length]
					body += strings.Repeat("x", length-len(body))
					what := fmt.Sprintf("%s: kind %d, number %d, length %d", place.what, kind, number, length)
					got := holdReplay(t, what, place.ahead+rec(byte(kind), number, body))
					if (got.e == api.OK) != place.may(kind, number, length) || got.at != 0 && got.at != len(place.ahead) {
						t.Errorf("P11.4: %s: %v", what, got)
					}
				}
			}
		}
	}
}

// P11.4: generations and first numbers at and beyond their bounds.
func TestReplayNumbers(t *testing.T) {
	for _, n := range []uint64{0, 1, 2, most - 1, most, most + 1, 1 << 63, 1<<64 - 1} {
		if n >= 1 && n <= most {
			tells(t, fmt.Sprint("generation ", n), headOf(n, 5)+baseOf(), 52, n, 5, nil, nil)
			tells(t, fmt.Sprint("first number ", n), headOf(5, n)+baseOf(), 52, 5, n, nil, nil)
		} else {
			spoilt(t, fmt.Sprint("generation ", n), headOf(n, 5)+baseOf(), 0)
			spoilt(t, fmt.Sprint("first number ", n), headOf(5, n)+baseOf(), 0)
			torn(t, fmt.Sprint("first number, but for a byte ", n), headOf(5, n)[:29])
			spoilt(t, fmt.Sprint("generation, its front ", n), headOf(n, 5)[:18], 0)
		}
	}
}

// P11.4: batches up to the last number, and none behind it; payloads may stand there.
func TestReplayLastNumber(t *testing.T) {
	begun := headOf(1, most) + baseOf()
	last := begun + batchOf(most, "x")
	tells(t, "the last batch", last, len(last), 1, most, nil, [][]string{{"x"}})
	spoilt(t, "one behind it", last+commitOf(most+1, 0), len(last))
	spoilt(t, "its number again", last+commitOf(most, 0), len(last))
	tells(t, "a payload behind it", last+rec(4, 0, "y"), len(last), 1, most, nil, [][]string{{"x"}})
	spoilt(t, "a batch behind it", last+batchOf(most+1, "y"), len(last)+23)
	two := headOf(1, most-1) + baseOf() + batchOf(most-1) + batchOf(most)
	tells(t, "the last two", two, len(two), 1, most-1, nil, [][]string{nil, nil})
	spoilt(t, "three", two+batchOf(most+1), len(two))
}

// P11.4: a commit's body, and its number.
func TestReplayCommits(t *testing.T) {
	live := headOf(1, 4) + baseOf()
	for payloads := range 3 {
		bodies := []string{"a", "b"}[:payloads]
		open := live + recs(4, bodies...)
		for n := range 5 {
			if n == payloads {
				tells(t, "a right commit", open+commitOf(4, n), len(open)+26, 1, 4, nil, [][]string{bodies})
				continue
			}
			spoilt(t, fmt.Sprintf("a commit of %d behind %d", n, payloads), open+commitOf(4, n), len(open))
			tells(t, "such a commit but for a byte", open+commitOf(4, n)[:25], 52, 1, 4, nil, nil)
		}
		for _, number := range []uint64{0, 1, 3, 5, 1<<32 + 4, 1<<63 + 4} {
			spoilt(t, fmt.Sprint("a commit numbered ", number), open+commitOf(number, payloads), len(open))
		}
	}
	spoilt(t, "a count beyond 16 bits", live+commitOf(4, 1<<16), 52)
	spoilt(t, "a count beyond 31 bits", live+commitOf(4, 1<<31), 52)
}

// P11.4: 8192 records of a base and of a batch, and one more.
func TestReplayMany(t *testing.T) {
	bodies := make([]string, 8193)
	for i := range bodies {
		bodies[i] = fmt.Sprint(i % 10)
	}
	base := headOf(2, 9) + baseOf(bodies[:8192]...)
	tells(t, "a base of 8192", base, len(base), 2, 9, bodies[:8192], nil)
	spoilt(t, "a base of 8193", headOf(2, 9)+baseOf(bodies...), 30+8192*23)
	spoilt(t, "the 8193rd front of a base", headOf(2, 9)+recs(2, bodies...)[:8192*23+18], 30+8192*23)
	batch := headOf(2, 9) + baseOf() + batchOf(9, bodies[:8192]...)
	tells(t, "a batch of 8192", batch, len(batch), 2, 9, nil, [][]string{bodies[:8192]})
	again := batch + batchOf(10, bodies[:8192]...)
	tells(t, "two of them", again, len(again), 2, 9, nil, [][]string{bodies[:8192], bodies[:8192]})
	spoilt(t, "a batch of 8193", headOf(2, 9)+baseOf()+batchOf(9, bodies...), 52+8192*23)
	tells(t, "8192 payloads and no commit", headOf(2, 9)+baseOf()+recs(4, bodies[:8192]...), 52, 2, 9, nil, nil)
	spoilt(t, "8193 payloads and no commit", headOf(2, 9)+baseOf()+recs(4, bodies...), 52+8192*23)
}

// P11.4: bodies of 2097152 bytes, and of one more.
func TestReplayLongBodies(t *testing.T) {
	great := strings.Repeat("g", 2097152)
	base := headOf(1, 1) + baseOf(great)
	tells(t, "a base record", base, len(base), 1, 1, []string{great}, nil)
	batch := headOf(1, 1) + baseOf() + batchOf(1, great)
	tells(t, "a payload", batch, len(batch), 1, 1, nil, [][]string{{great}})
	torn(t, "a base record's front", headOf(1, 1)+rec(2, 0, great)[:18])
	spoilt(t, "a longer base record", headOf(1, 1)+baseOf(great+"x"), 30)
	spoilt(t, "a longer payload", headOf(1, 1)+baseOf()+batchOf(1, great+"x"), 52)
	spoilt(t, "a longer payload's front", headOf(1, 1)+baseOf()+rec(4, 0, great+"x")[:18], 52)
	for _, length := range []string{"\x01\x00\x20\x00", "\x00\x00\x00\x80", "\xff\xff\xff\xff"} {
		front := rec(4, 0, "")[:10] + length
		spoilt(t, fmt.Sprintf("a length of % x", length), headOf(1, 1)+baseOf()+summed(front), 52)
	}
}

// P11.4: a file is live by its base's end alone.
func TestReplayNoBaseEnd(t *testing.T) {
	torn(t, "a head", headOf(1, 1))
	torn(t, "a head and a base", headOf(1, 1)+recs(2, "a", "b"))
	torn(t, "an end but for a byte", (headOf(1, 1) + baseOf("a"))[:30+23+21])
	spoilt(t, "a head and a payload", headOf(1, 1)+rec(4, 0, "a"), 30)
	spoilt(t, "two heads", headOf(1, 1)+headOf(1, 1), 30)
	spoilt(t, "no head", baseOf(), 0)
	spoilt(t, "an end of too many", headOf(1, 1)+rec(2, 0, "a")+rec(3, 2, ""), 53)
	spoilt(t, "an end of too few", headOf(1, 1)+rec(2, 0, "a")+rec(3, 0, ""), 53)
}

// P11.5: two files, and which of them is asked first.
func TestReplayTwoFiles(t *testing.T) {
	a := headOf(5, 2) + baseOf("a") + batchOf(2, "x")
	b := headOf(6, 9) + baseOf("b")
	dead := headOf(9, 9)
	for file := range 2 {
		for what, c := range map[string]struct {
			other string
			want  verdict
		}{
			"an older one":          {a, verdict{told: telling(file, len(b), 6, 9, []string{"b"}, nil)}},
			"one of its own":        {b, refusal(api.ErrRecord, 1, 0)},
			"another of its own":    {headOf(6, 3) + baseOf(), refusal(api.ErrRecord, 1, 0)},
			"a newer one":           {headOf(7, 1) + baseOf(), verdict{told: telling(1-file, 52, 7, 1, nil, nil)}},
			"the newest":            {headOf(most, 1) + baseOf(), verdict{told: telling(1-file, 52, most, 1, nil, nil)}},
			"a dead one":            {dead, verdict{told: telling(file, len(b), 6, 9, []string{"b"}, nil)}},
			"a dead one of its own": {headOf(6, 9), verdict{told: telling(file, len(b), 6, 9, []string{"b"}, nil)}},
			"a torn newer one":      {headOf(7, 9) + baseOf("a", "b")[:60], verdict{told: telling(file, len(b), 6, 9, []string{"b"}, nil)}},
			"a mark":                {"\x9e", verdict{told: telling(file, len(b), 6, 9, []string{"b"}, nil)}},
			"no journal":            {"\x00", refusal(api.ErrJournal, 1-file, 0)},
			"a spoilt one":          {a + "\x00", refusal(api.ErrRecord, 1-file, len(a))},
			"a spoilt dead one":     {dead + "\x00", refusal(api.ErrRecord, 1-file, len(dead))},
		} {
			got := holdReplay(t, what, beside(file, b, c.other)...)
			if got.told != c.want.told || got.e != c.want.e || got.file != c.want.file || got.at != c.want.at {
				t.Errorf("P11.5: beside file %d: %s: %v, want %v", file, what, got, c.want)
			}
		}
	}
	for _, c := range []struct {
		files [2]string
		want  verdict
	}{
		{[2]string{"\x00", "\x00"}, refusal(api.ErrJournal, 0, 0)},
		{[2]string{a + "\x00", "\x00"}, refusal(api.ErrRecord, 0, len(a))},
		{[2]string{"\x00", a + "\x00"}, refusal(api.ErrJournal, 0, 0)},
		{[2]string{dead, dead}, verdict{told: telling(-1, 0, 0, 0, nil, nil), kept: keeping(nil, nil)}},
		{[2]string{"", "\x9e"}, verdict{told: telling(-1, 0, 0, 0, nil, nil), kept: keeping(nil, nil)}},
		{[2]string{b + "\x9e", b + "\x00"}, refusal(api.ErrRecord, 1, len(b))},
	} {
		if got := holdReplay(t, "two files", c.files[:]...); got != c.want {
			t.Errorf("P11.5: %q: %v, want %v", c.files, got, c.want)
		}
	}
}

// P11.5: a file of more than 67108864 bytes, whatever it is, and asked for file by file.
func TestReplayTooLong(t *testing.T) {
	great := make([]byte, 67108864+1)
	copy(great, headOf(1, 1)+baseOf())
	for _, c := range []struct {
		files [2][]byte
		want  verdict
	}{
		{[2][]byte{great, nil}, refusal(api.ErrLong, 0, 0)},
		{[2][]byte{nil, great}, refusal(api.ErrLong, 1, 0)},
		{[2][]byte{great, great}, refusal(api.ErrLong, 0, 0)},
		{[2][]byte{great, {0}}, refusal(api.ErrLong, 0, 0)},
		{[2][]byte{{0}, great}, refusal(api.ErrJournal, 0, 0)},
		{[2][]byte{{0x9e}, great}, refusal(api.ErrLong, 1, 0)},
		{[2][]byte{great[:67108864], great}, refusal(api.ErrRecord, 0, 52)},
		{[2][]byte{nil, great[:67108864]}, refusal(api.ErrRecord, 1, 52)},
		{[2][]byte{nil, great[52:]}, refusal(api.ErrJournal, 1, 0)},
	} {
		if got := replayed(api.Disk{Files: c.files}); got != c.want {
			t.Errorf("P11.5: %d and %d bytes: %v, want %v", len(c.files[0]), len(c.files[1]), got, c.want)
		}
	}
}

// anyFile is a file that is mostly right, of few and small records.
func anyFile(r *rand.Rand) string {
	pick := func(n int) bool { return r.IntN(n) == 0 }
	bodies := func() []string {
		out := make([]string, r.IntN(4))
		for i := range out {
			out[i] = strings.Repeat("z", r.IntN(5))
		}
		return out
	}
	gen, first := uint64(1+r.IntN(3)), uint64(1+r.IntN(3))
	if pick(8) {
		first = most - 1
	}
	if pick(20) {
		gen = []uint64{0, most, most + 1}[r.IntN(3)]
	}
	parts := []string{headOf(gen, first)}
	base := bodies()
	for i, b := range base {
		parts = append(parts, rec(2, uint64(i), b))
	}
	parts = append(parts, rec(3, uint64(len(base)), ""))
	for k := range r.IntN(4) {
		batch := bodies()
		for i, b := range batch {
			parts = append(parts, rec(4, uint64(i), b))
		}
		parts = append(parts, commitOf(first+uint64(k), len(batch)))
	}
	for pick(3) { // some part goes, comes twice, changes its place, or is another one
		i, k := r.IntN(len(parts)), r.IntN(len(parts))
		switch r.IntN(4) {
		case 0:
			parts[i] = ""
		case 1:
			parts[i] += parts[i]
		case 2:
			parts[i], parts[k] = parts[k], parts[i]
		default:
			parts[i] = rec(byte(r.IntN(7)), uint64(r.IntN(3)), strings.Repeat("\x01", r.IntN(9)))
		}
	}
	text := strings.Join(parts, "")
	if pick(3) {
		text = text[:r.IntN(len(text)+1)]
	}
	if pick(4) && text != "" {
		i := r.IntN(len(text))
		text = text[:i] + string([]byte{text[i] ^ 1<<r.IntN(8)}) + text[i+1:]
	}
	if pick(6) {
		text += []string{"\x00", "\x9e", "\x9e\x04\x00", strings.Repeat("\x9e", 18)}[r.IntN(4)]
	}
	return text
}

// P11.4 and P11.5: any two files.
func TestReplayAnyFiles(t *testing.T) {
	r := sourceOf(2)
	seen := map[api.Errno]int{}
	live := 0
	for i := range 40000 {
		got := holdReplay(t, fmt.Sprint("any files ", i), anyFile(r), anyFile(r))
		seen[got.e]++
		if !strings.HasPrefix(got.told, "file -1") && got.e == api.OK {
			live++
		}
	}
	if seen[api.OK] < 1000 || live < 1000 || seen[api.ErrJournal] < 100 || seen[api.ErrRecord] < 1000 {
		t.Errorf("few of a kind: %v, %d live", seen, live)
	}
}

// 'Ways': the reader gives up by panic with what it found, and its face recovers it.
func TestReaderGivesUp(t *testing.T) {
	live := headOf(1, 1) + baseOf()
	for _, c := range []struct {
		text string
		want any
	}{
		{"\x00", breach{true, 0}}, {"\x9e", breach{false, 0}}, {"", breach{false, 0}}, {live, nil},
		{live + "\x00", breach{true, 52}}, {live + "\x9e", breach{false, 52}}, {live + commitOf(1, 1), breach{true, 52}},
		{live + rec(4, 0, "a") + commitOf(1, 0), breach{true, 75}}, {live + rec(4, 0, "a"), breach{false, 75}}, {headOf(1, 0), breach{true, 0}},
	} {
		got := func() (x any) {
			defer func() { x = recover() }()
			(&reader{data: []byte(c.text)}).story(0)
			return nil
		}()
		if got != c.want {
			t.Errorf("the reader of %q gave up by %v, want %v", c.text, got, c.want)
		}
		if _, b := readFile(0, []byte(c.text)); c.want != nil && b != c.want {
			t.Errorf("the face of the reader of %q answers %v, want %v", c.text, b, c.want)
		}
	}
}
