package wire

import (
	"fmt"
	"math"
	"math/rand/v2"
	"slices"
	"strings"
	"testing"

	"graft/api"
	"graft/label"
)

// takeAll feeds an Intake with pieces: the first error, or what Close tells.
func takeAll(pieces []string) ([]api.Object, api.Errno, int) {
	n := NewIntake()
	for _, p := range pieces {
		if e, at := n.Feed([]byte(p)); e != api.OK {
			return nil, e, at
		} else if at != 0 {
			return nil, -1, at
		}
	}
	return n.Close()
}

// done holds that an Intake has finished or failed.
func done(t *testing.T, what string, n *Intake) {
	t.Helper()
	for _, p := range []string{"", "x", "graftexp", streamOf()} {
		if e, at := n.Feed([]byte(p)); e != api.ErrDone || at != 0 {
			t.Errorf("P16.7: %s: Feed = %d, %d", what, e, at)
		}
		if l, e, at := n.Close(); len(l) != 0 || e != api.ErrDone || at != 0 {
			t.Errorf("P16.7: %s: Close = %d objects, %d, %d", what, len(l), e, at)
		}
	}
}

// some is a stream with several objects.
func some() string {
	full := api.Object{Label: lb, Refs: []api.Label{la, lb}, Ark: file("hello"), Maker: textOf(lc), Ca: api.ByGroup}
	return streamOf(holding(la, "hi"), full, holding(la, "hi"))
}

// faults is what may be wrong with a stream, each known by the last byte of data.
func faults() map[string]known {
	out := map[string]known{}
	for i := range 8 {
		for _, by := range []byte{0, 255, 'G', "graftexp"[i] ^ 1} {
			out[fmt.Sprintf("magic %d by %d", i, by)] = known{"graftexp"[:i] + string([]byte{by}), api.ErrMagic, i}
		}
	}
	one := "graftexp" + record(1, bodyOf(holding(la, "hi")))
	for _, ahead := range []string{"graftexp", one, one + one[8:]} {
		at := len(ahead)
		put := func(what, data string, e api.Errno, place int) {
			out[fmt.Sprintf("%s at %d", what, at)] = known{ahead + data, e, place}
		}
		head := func(kind byte, n int) string { return summed(string([]byte{kind}) + number(n)) }
		right := head(1, 8)
		for i := range 13 {
			put(fmt.Sprintf("head %d", i), right[:i]+string([]byte{right[i] ^ 1})+right[i+1:], api.ErrSum, at)
		}
		put("head's sum, no such kind", head(3, 8)[:12]+"?", api.ErrSum, at)
		for _, kind := range []byte{0, 3, 4, 128, 255} {
			for _, n := range []int{0, 8, -1, 1 << 30} {
				put(fmt.Sprintf("kind %d number %d", kind, n), head(kind, n), api.ErrRecord, at)
			}
		}
		for _, n := range []int{-1, -8, math.MinInt, math.MinInt + 8, 1<<21 + 1, 1 << 32, 1<<32 + 8, math.MaxInt} {
			put(fmt.Sprintf("object of %d", n), head(1, n), api.ErrRecord, at)
			put(fmt.Sprintf("end of %d", n), head(2, n), api.ErrRecord, at)
		}
		for _, n := range []int{0, 1, 7, 9, 16, 1 << 21} {
			put(fmt.Sprintf("end of %d", n), head(2, n), api.ErrRecord, at)
		}
		for _, kind := range []byte{1, 2} {
			x := record(kind, number(77))
			for i := range 12 {
				put(fmt.Sprintf("body %d of kind %d", i, kind), x[:13+i]+string([]byte{x[13+i] ^ 1})+x[14+i:], api.ErrSum, at+21)
			}
		}
		for what, body := range wrongBodies() {
			put(what, record(1, body), api.ErrObject, at)
		}
		count := strings.Count(ahead, "\x01"+number(len(bodyOf(holding(la, "hi")))))
		for _, n := range []int{count - 1, count + 1, -1, count + 1<<32, math.MinInt + count, 4096} {
			put(fmt.Sprintf("end says %d", n), record(2, number(n)), api.ErrObject, at)
		}
		put("a byte behind", record(2, number(count))+"\x00", api.ErrTail, at+25)
	}
	return out
}

// wrongBodies is bodies that aren't those of right objects, by each of their fields.
func wrongBodies() map[string]string {
	out := map[string]string{"none": "", "a byte": "x", "zeros": zeros(100)}
	for what, o := range wrongObjects() {
		out[what] = bodyOf(o)
	}
	o := api.Object{Label: la, Refs: []api.Label{lb}, Ark: file("hi"), Maker: textOf(lc), Ca: api.ByFlat}
	fields := []string{word(textOf(la)), number(1) + word(textOf(lb)), word(textOf(lc)), number(4), word(string(o.Ark))}
	with := func(i int, field string) string {
		list := slices.Clone(fields)
		list[i] = field
		return strings.Join(list, "")
	}
	for i := range fields {
		out[fmt.Sprint("without field ", i)] = with(i, "")
		for k := range 5 {
			out[fmt.Sprint("cut short by ", i, k)] = with(i, fields[i][:len(fields[i])-1-k])
		}
	}
	all := strings.Join(fields, "")
	for k := range len(all) {
		out[fmt.Sprint("cut to ", k)] = all[:k]
	}
	for _, more := range []string{"\x00", zeros(8), "x", all} {
		out[fmt.Sprintf("with %q behind", more)] = all + more
	}
	text := textOf(la)
	for what, s := range map[string]string{"empty": "", "a base": text[13:], "cut": text[:46], "capital": strings.ToUpper(text), "with a step": text + "/x", "long": textOf(longest) + "n"} {
		out["label "+what], out["reference "+what] = with(0, word(s)), with(1, number(1)+word(s))
		if s != "" {
			out["maker "+what] = with(2, word(s))
		}
	}
	for _, n := range []int{-1, math.MinInt, 48 + 1<<32, 0, 46, 48, 56, math.MaxInt} {
		out[fmt.Sprint("label of ", n)], out[fmt.Sprint("maker of ", n)] = with(0, number(n)+fields[0][8:]), with(2, number(n)+fields[2][8:])
	}
	for _, n := range []int{-1, math.MinInt, 0, 2, 256, 257, 1 + 1<<32, math.MaxInt} {
		out[fmt.Sprint(n, " references")] = with(1, number(n)+fields[1][8:])
		if n <= 0 {
			out[fmt.Sprint(n, " references, none there")] = with(1, number(n)) + "x"
		}
	}
	out["-1 references, and none"] = with(1, number(-1))
	out["references in no order"], out["references twice"] = with(1, number(2)+word(textOf(lb))+word(textOf(la))), with(1, number(2)+word(textOf(lb))+word(textOf(lb)))
	for _, ca := range []int{5, 255, 256, 257, -1, 4 + 1<<32, math.MinInt, math.MinInt + 4, 4 << 8} {
		out[fmt.Sprint("Ca ", ca)] = with(3, number(ca))
	}
	padding := func(i int) string { return fields[i][:len(fields[i])-1] + "\x01" }
	out["a label's padding"], out["a reference's padding"], out["a maker's padding"] = with(0, padding(0)), with(1, padding(1)), with(2, padding(2))
	odd := word("1234567")[:15] + "\x01"
	out["an ark's padding"] = with(4, odd)
	return out
}

// Each fault is told with its place, with the last byte by which it is known, however the bytes come; and nothing is told ahead of it.
func TestIntakeFaults(t *testing.T) {
	source := sourceOf(4)
	for what, x := range faults() {
		if _, e, at := plainIntake(x.data); e != x.e || at != x.at {
			t.Fatalf("%s: the plain reading says %d, %d", what, e, at)
		}
		for _, more := range []string{"", "x", zeros(50), some()} {
			n := NewIntake()
			if e, at := n.Feed([]byte(x.data + more)); e != x.e || at != x.at {
				t.Fatalf("P16.7: %s: Feed = %d, %d, want %d, %d", what, e, at, x.e, x.at)
			}
			done(t, what, n)
		}
		last := len(x.data) - 1
		n := NewIntake()
		if e, at := n.Feed([]byte(x.data[:last])); e != api.OK || at != 0 {
			t.Fatalf("P16.7: %s: told too early: %d, %d", what, e, at)
		}
		if e, at := n.Feed([]byte(x.data[last:])); e != x.e || at != x.at {
			t.Fatalf("P16.7: %s: Feed of the last byte = %d, %d, want %d, %d", what, e, at, x.e, x.at)
		}
		done(t, what, n)
		for _, pieces := range [][]string{bytewise(x.data), piecesOf(source, x.data, 30)} {
			if l, e, at := takeAll(pieces); len(l) != 0 || e != x.e || at != x.at {
				t.Fatalf("P16.7: %s, in pieces: %d, %d, want %d, %d", what, e, at, x.e, x.at)
			}
		}
		n = NewIntake()
		n.Feed([]byte(x.data[:last]))
		if l, e, at := n.Close(); x.e != api.ErrTail && (len(l) != 0 || e != api.ErrShort || at != last) {
			t.Fatalf("P16.7: %s: Close ahead of it = %d, %d", what, e, at)
		}
		done(t, what, n)
	}
}

// Two things that are wrong: the first of them.
func TestIntakeTwoFaults(t *testing.T) {
	one := record(1, bodyOf(holding(la, "hi")))
	turned := func(s string, at int) string { return s[:at] + string([]byte{s[at] ^ 64}) + s[at+1:] }
	for what, x := range map[string]known{
		"magic, then the head": {"graftexP" + turned(one, 0), api.ErrMagic, 7}, "two of the magic": {"gRafteXp", api.ErrMagic, 1},
		"head's sum and kind": {"graftexp" + turned(record(3, ""), 9), api.ErrSum, 8}, "kind and number": {"graftexp" + summed("\x03"+number(-1)), api.ErrRecord, 8}, "head and body": {"graftexp" + turned(turned(one, 1), 20), api.ErrSum, 8},
		"body's sum, and no object": {"graftexp" + turned(record(1, "12345678"), 15), api.ErrSum, 29}, "no object, then no record": {"graftexp" + record(1, "") + record(3, ""), api.ErrObject, 8}, "two bodies": {"graftexp" + one + turned(one, 30) + turned(one, 0), api.ErrSum, 8 + len(one) + len(one) - 4},
		"the end's number, and bytes behind": {"graftexp" + one + record(2, number(0)) + "x", api.ErrObject, 8 + len(one)}, "two ends": {"graftexp" + record(2, number(0)) + record(2, number(0)), api.ErrTail, 33}, "an object behind the end": {"graftexp" + record(2, number(0)) + one, api.ErrTail, 33},
		"the end's sum and number": {"graftexp" + turned(record(2, number(1)), 22), api.ErrSum, 29},
	} {
		for _, pieces := range [][]string{{x.data}, bytewise(x.data)} {
			if l, e, at := takeAll(pieces); len(l) != 0 || e != x.e || at != x.at {
				t.Errorf("P16.7: %s: %d, %d, want %d, %d", what, e, at, x.e, x.at)
			}
		}
	}
}

// Every beginning of a stream is short, and the whole of it is taken, in whatever pieces.
func TestIntakeBeginnings(t *testing.T) {
	data := some()
	want, e, _ := plainIntake(data)
	if e != api.OK || len(want) != 3 {
		t.Fatalf("%d, %d objects", e, len(want))
	}
	source := sourceOf(5)
	for k := range len(data) {
		for _, pieces := range [][]string{{data[:k]}, bytewise(data[:k]), piecesOf(source, data[:k], 40)} {
			if l, e, at := takeAll(pieces); len(l) != 0 || e != api.ErrShort || at != k {
				t.Fatalf("P16.7: %d bytes: %d, %d", k, e, at)
			}
		}
		for _, pieces := range [][]string{{data[:k], data[k:]}, {"", data[:k], "", data[k:], ""}, piecesOf(source, data, 1+k%100)} {
			if l, e, at := takeAll(pieces); showObjects(l) != showObjects(want) || e != api.OK || at != 0 {
				t.Fatalf("P16.8: cut at %d: %d, %d, %s", k, e, at, showObjects(l))
			}
		}
	}
	if l, e, _ := takeAll(bytewise(data)); showObjects(l) != showObjects(want) || e != api.OK {
		t.Fatalf("P16.8: byte by byte: %d, %s", e, showObjects(l))
	}
	if l, e, at := takeAll(nil); len(l) != 0 || e != api.ErrShort || at != 0 {
		t.Errorf("P16.7: nothing fed: %d, %d", e, at)
	}
	for _, more := range []string{"\x00", "x", data, zeros(1000)} {
		for _, pieces := range [][]string{{data + more}, bytewise(data + more), {data, more}} {
			if l, e, at := takeAll(pieces); len(l) != 0 || e != api.ErrTail || at != len(data) {
				t.Errorf("P16.8: bytes behind it: %d, %d", e, at)
			}
		}
	}
}

func TestIntakeDone(t *testing.T) {
	n := NewIntake()
	n.Feed([]byte(some()))
	if l, e, at := n.Close(); len(l) != 3 || e != api.OK || at != 0 {
		t.Errorf("P16.7: %d objects, %d, %d", len(l), e, at)
	}
	done(t, "behind a Close", n)
	n = NewIntake()
	n.Close()
	done(t, "behind a Close that was short", n)
	n = NewIntake()
	n.Feed([]byte(some() + "x"))
	done(t, "behind an error", n)
	n = NewIntake()
	n.Feed([]byte("x"))
	done(t, "behind an error", n)
}

// A stream of which one byte is replaced is refused: by each other byte, in one piece; by some, byte by byte.
func TestEveryByteTurned(t *testing.T) {
	data := some()
	for k := range len(data) {
		b := []byte(data)
		for by := range 256 {
			b[k] = byte(by)
			if b[k] == data[k] {
				continue
			}
			_, _, want, place := plainFeed(string(b))
			l, e, at := takeAll([]string{string(b)})
			if want == api.OK {
				want, place = api.ErrShort, len(data)
			}
			if len(l) != 0 || e != want || at != place {
				t.Fatalf("P16.8: byte %d is %d: %d objects, %d, %d, want %d, %d", k, by, len(l), e, at, want, place)
			}
			if by^int(data[k]) == 1<<(k%8) || by == k%256 {
				if l, e, at := takeAll(bytewise(string(b))); len(l) != 0 || e != want || at != place {
					t.Fatalf("P16.8: byte %d is %d, byte by byte: %d objects, %d, %d, want %d, %d", k, by, len(l), e, at, want, place)
				}
			}
		}
	}
}

// Behind as many objects as there may be another one is refused by its head, and an end is taken.
func TestIntakeMany(t *testing.T) {
	one := record(1, bodyOf(holding(la, "hi")))
	all := "graftexp" + strings.Repeat(one, api.MaxObjects)
	if l, e, at := takeAll([]string{all, record(2, number(4096))}); len(l) != 4096 || e != api.OK || at != 0 {
		t.Errorf("P16.7: %d objects, %d, %d", len(l), e, at)
	}
	n := NewIntake()
	if e, at := n.Feed([]byte(all + one[:12])); e != api.OK || at != 0 {
		t.Errorf("P16.7: %d, %d", e, at)
	}
	if e, at := n.Feed([]byte(one[12:13])); e != api.ErrRecord || at != len(all) {
		t.Errorf("P16.7: one more object: %d, %d", e, at)
	}
	done(t, "behind one more object", n)
}

// A body may have 2^21 bytes, though no right object has so many; it is looked at when its sum is there.
func TestIntakeGreatBody(t *testing.T) {
	body := strings.Repeat("b", 1<<21)
	data := "graftexp" + record(1, body)
	for _, pieces := range [][]string{{data}, {data[:100], data[100:]}, {data[:1<<20], data[1<<20:]}} {
		if l, e, at := takeAll(pieces); len(l) != 0 || e != api.ErrObject || at != 8 {
			t.Errorf("P16.7: %d, %d", e, at)
		}
	}
	n := NewIntake()
	if e, at := n.Feed([]byte(data[:len(data)-1])); e != api.OK || at != 0 {
		t.Errorf("P16.7: %d, %d", e, at)
	}
	if _, e, at := n.Close(); e != api.ErrShort || at != len(data)-1 {
		t.Errorf("P16.7: %d, %d", e, at)
	}
	great := streamOf(greatest())
	want := []api.Object{greatest()}
	for _, pieces := range [][]string{{great}, bytewise(great), piecesOf(sourceOf(6), great, 5000)} {
		if l, e, at := takeAll(pieces); showObjects(l) != showObjects(want) || e != api.OK || at != 0 {
			t.Errorf("P16.8: %d pieces: %d, %d", len(pieces), e, at)
		}
	}
}

func TestNilIntake(t *testing.T) {
	var n *Intake
	for _, p := range []string{"", "x", "graftexp", some()} {
		if e, at := n.Feed([]byte(p)); e != api.OK || at != 0 {
			t.Errorf("P16.9: Feed = %d, %d", e, at)
		}
		if l, e, at := n.Close(); len(l) != 0 || e != api.OK || at != 0 {
			t.Errorf("P16.9: Close = %d objects, %d, %d", len(l), e, at)
		}
	}
}

// Two at one time have nothing in common.
func TestTwoIntakes(t *testing.T) {
	one, two := NewIntake(), NewIntake()
	first, second := some(), streamOf(holding(lc, "other"))
	for k := range len(first) {
		one.Feed([]byte(first[k : k+1]))
		if k < len(second) {
			two.Feed([]byte(second[k : k+1]))
		}
	}
	l, e, _ := one.Close()
	m, f, _ := two.Close()
	if len(l) != 3 || e != api.OK || len(m) != 1 || f != api.OK || m[0].Label != lc {
		t.Errorf("P16.7: %d objects, %d; %d objects, %d", len(l), e, len(m), f)
	}
}

func randomObject(source *rand.Rand) api.Object {
	o := api.Object{Label: pick(source, la, lb, longest, numbered(source.IntN(9), "n")), Ca: api.Ca(source.IntN(5)), Maker: pick(source, "", "", textOf(lc), textOf(longest))}
	o.Refs = label.Sort(randomLabels(source))
	o.Ark = pick(source, file(randomText(source)), file(""), arkOf(api.Node{Kind: api.KindDir}), arkOf(api.Node{Kind: api.KindLink, Link: "x"}))
	return o
}

// Streams whose sums are right, but whose bodies were changed, are taken just as the plain reading takes them; and what is taken
// is exported as it was.
func TestIntakeByChance(t *testing.T) {
	source := sourceOf(7)
	taken := 0
	for range 20000 {
		data := "graftexp"
		count := source.IntN(4)
		for range count {
			body := bodyOf(randomObject(source))
			if source.IntN(4) == 0 {
				body = spoil(source, body)
			}
			data += record(pick[byte](source, 1, 1, 1, 1, 1, 1, 1, 1, 2, 3), body)
		}
		data += record(2, number(pick(source, count, count, count, count, count, 0, 1)))
		data += pick(source, "", "", "", "", "", "x", record(2, number(count)))
		want, f, place := plainIntake(data)
		for _, pieces := range [][]string{{data}, piecesOf(source, data, pick(source, 3, 20, 200))} {
			l, e, at := takeAll(pieces)
			if showObjects(l) != showObjects(want) || e != f || at != place {
				t.Fatalf("P16.7: %q: %s, %d, %d, want %s, %d, %d", data, showObjects(l), e, at, showObjects(want), f, place)
			}
			if e == api.OK {
				taken++
				if b, e := Export(l); string(b) != data || e != api.OK {
					t.Fatalf("P16.8: Export = %d, %q, want %q", e, b, data)
				}
			}
		}
	}
	if taken < 5000 || taken > 35000 {
		t.Errorf("%d were taken", taken)
	}
}
