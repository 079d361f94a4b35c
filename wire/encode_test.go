package wire

import (
	"math"
	"slices"
	"strings"
	"testing"

	"graft/api"
)

// fullAsk is a request with something in each of the fields that its Op has.
func fullAsk(op int) api.Ask {
	a := api.Ask{Op: op}
	for _, field := range plainFields[op] {
		fill(&a, byte(field))
	}
	return a
}

// fill puts something into a field.
func fill(a *api.Ask, field byte) {
	switch field {
	case 'L':
		a.Labels = []api.Label{lb, longest, la}
	case 'T':
		a.Text = "a text"
	case 'D':
		a.Data = []byte("data, not a multiple of eight")
	case 'N':
		a.Number = -3
	}
}

// encodes holds that a request has these bytes.
func encodes(t *testing.T, a api.Ask, want string) {
	t.Helper()
	if b, e := Encode(a); string(b) != want || e != api.OK {
		t.Errorf("P16.1: Encode(%s) = %s, %d, want %s", showAsk(a), brief(b), e, brief(want))
	}
}

// refusesAsk holds that a request is refused.
func refusesAsk(t *testing.T, a api.Ask, want api.Errno) {
	t.Helper()
	if b, e := Encode(a); len(b) != 0 || e != want {
		t.Errorf("P16.1: Encode(%s) = %s, %d, want %d", showAsk(a), brief(b), e, want)
	}
}

func TestEncode(t *testing.T) {
	label := word("/graft/store/" + strings.Repeat("0", 31) + "1-x")
	one := []api.Label{{Hash: api.Hash{1}, Name: "x"}}
	for _, x := range []struct {
		a    api.Ask
		want string
	}{
		{api.Ask{Op: api.OpHello, Number: 7}, number(1) + zeros(24) + number(7)},
		{api.Ask{Op: api.OpImport, Data: []byte("12345678"), Number: 1}, number(2) + zeros(16) + number(8) + "12345678" + number(1)},
		{api.Ask{Op: api.OpText, Labels: one, Text: "name", Data: []byte("d")}, number(3) + number(1) + label + number(4) + "name\x00\x00\x00\x00" + number(1) + "d" + zeros(7) + zeros(8)},
		{api.Ask{Op: api.OpTree, Text: "123456789", Data: []byte("1234567")}, number(4) + zeros(8) + number(9) + "123456789" + zeros(7) + number(7) + "1234567\x00" + zeros(8)},
		{api.Ask{Op: api.OpRewrite, Labels: append(one, one...), Number: -1}, number(5) + number(2) + label + label + zeros(16) + strings.Repeat("\xff", 8)},
		{api.Ask{Op: api.OpLookup, Labels: one}, number(6) + number(1) + label + zeros(24)},
		{api.Ask{Op: api.OpRead, Labels: one}, number(7) + number(1) + label + zeros(24)},
		{api.Ask{Op: api.OpVerify, Labels: one, Number: math.MinInt}, number(8) + number(1) + label + zeros(16) + zeros(7) + "\x80"},
		{api.Ask{Op: api.OpList}, number(9) + zeros(32)},
		{api.Ask{Op: api.OpExport, Labels: one}, number(10) + number(1) + label + zeros(24)},
		{api.Ask{Op: api.OpBye}, number(11) + zeros(32)},
	} {
		encodes(t, x.a, x.want)
	}
	for op := range plainFields {
		for _, a := range []api.Ask{{Op: op}, fullAsk(op), {Op: op, Labels: []api.Label{}, Data: []byte{}}} {
			want, _ := plainEncode(a, true)
			encodes(t, a, want)
		}
	}
}

// A field that the Op doesn't have must be empty or 0, and the least that may be in it is too much; one that it has may be filled alone.
func TestEncodeFields(t *testing.T) {
	least := map[byte]func(a *api.Ask){
		'L': func(a *api.Ask) { a.Labels = []api.Label{la} }, 'T': func(a *api.Ask) { a.Text = "\x00" }, 'D': func(a *api.Ask) { a.Data = []byte{0} }, 'N': func(a *api.Ask) { a.Number = 1 },
	}
	for op, fields := range plainFields {
		for field, put := range least {
			bare, full, other := api.Ask{Op: op}, fullAsk(op), fullAsk(op)
			put(&bare)
			put(&full)
			fill(&other, field)
			for _, a := range []api.Ask{bare, full, other} {
				if strings.IndexByte(fields, field) < 0 {
					refusesAsk(t, a, api.ErrWire)
				} else {
					want, _ := plainEncode(a, true)
					encodes(t, a, want)
				}
			}
		}
	}
}

func TestEncodeErrors(t *testing.T) {
	bad := func(names ...string) []api.Label {
		var out []api.Label
		for i, name := range names {
			out = append(out, numbered(i, name))
		}
		return out
	}
	long := strings.Repeat("n", 212)
	for _, op := range []int{0, 12, 13, -1, -9, math.MaxInt, math.MinInt, 1 << 32, 9 + 1<<32} {
		for _, a := range []api.Ask{{}, {Labels: many(4097, "x")}, {Labels: bad("")}, {Number: 1}, {Data: make([]byte, api.MaxWord+1)}} {
			a.Op = op
			refusesAsk(t, a, api.ErrVoid)
		}
	}
	for _, op := range []int{api.OpText, api.OpRewrite, api.OpExport, api.OpList, api.OpHello} {
		for _, x := range []struct {
			a    api.Ask
			want api.Errno
		}{
			{api.Ask{Labels: many(4097, "x")}, api.ErrLong}, {api.Ask{Labels: make([]api.Label, 4097)}, api.ErrLong}, {api.Ask{Labels: make([]api.Label, 4096)}, api.ErrName},
			{api.Ask{Labels: bad("")}, api.ErrName}, {api.Ask{Labels: bad("a", ".b")}, api.ErrName}, {api.Ask{Labels: bad("a", "b", "c d", long)}, api.ErrName},
			{api.Ask{Labels: bad(long)}, api.ErrLong}, {api.Ask{Labels: bad("a", long, "")}, api.ErrLong}, {api.Ask{Labels: bad("", long)}, api.ErrName},
			{api.Ask{Labels: bad(""), Text: strings.Repeat("t", api.MaxWord+1)}, api.ErrName}, {api.Ask{Labels: bad(""), Number: 1, Text: "t", Data: []byte("d")}, api.ErrName},
			{api.Ask{Text: strings.Repeat("t", api.MaxWord+1)}, api.ErrLong}, {api.Ask{Data: make([]byte, api.MaxWord+1)}, api.ErrLong},
			{api.Ask{Number: 1, Text: "t", Data: make([]byte, api.MaxWord+1)}, api.ErrLong}, {api.Ask{Number: 1, Data: []byte("d"), Text: strings.Repeat("t", api.MaxWord+1)}, api.ErrLong},
		} {
			x.a.Op = op
			refusesAsk(t, x.a, x.want)
		}
	}
}

// At each bound everything is taken.
func TestEncodeBounds(t *testing.T) {
	for _, a := range []api.Ask{
		{Op: api.OpExport, Labels: many(4096, longest.Name)}, {Op: api.OpRewrite, Labels: slices.Repeat([]api.Label{la}, 4096), Number: math.MaxInt},
		{Op: api.OpText, Text: strings.Repeat("t", api.MaxWord), Data: make([]byte, api.MaxWord)}, {Op: api.OpTree, Text: strings.Repeat("t", api.MaxWord-1), Data: make([]byte, api.MaxWord-7)},
	} {
		want, e := plainEncode(a, true)
		if e != api.OK {
			t.Fatalf("%d", e)
		}
		encodes(t, a, want)
		if b, e, n := Decode([]byte(want)); showAsk(b) != showAsk(a) || e != api.OK || n != len(want) {
			t.Errorf("P16.2: Decode = %s, %d, %d", showAsk(b), e, n)
		}
	}
}

// An answer may have any Err, and something in every field.
func TestEncodeSay(t *testing.T) {
	for _, err := range []api.Errno{0, 1, 9, 12, 161, -1, -5, 1 << 40, math.MaxInt, math.MinInt} {
		for _, fields := range []string{"", "L", "T", "D", "N", "LTDN", "LN", "TD"} {
			var x api.Ask
			for _, field := range fields {
				fill(&x, byte(field))
			}
			a := api.Say{Err: err, Labels: x.Labels, Text: x.Text, Data: x.Data, Number: x.Number}
			want, _ := plainEncodeSay(a)
			b, e := EncodeSay(a)
			if string(b) != want || e != api.OK {
				t.Errorf("P16.1: EncodeSay(%s) = %q, %d, want %q", showSay(a), b, e, want)
			}
			if back, e, n := DecodeSay(b); showSay(back) != showSay(a) || e != api.OK || n != len(b) {
				t.Errorf("P16.2: DecodeSay = %s, %d, %d, want %s", showSay(back), e, n, showSay(a))
			}
		}
	}
}

func TestEncodeSayErrors(t *testing.T) {
	for _, x := range []struct {
		a    api.Say
		want api.Errno
	}{
		{api.Say{Labels: many(4097, "x")}, api.ErrLong}, {api.Say{Labels: make([]api.Label, 4097)}, api.ErrLong}, {api.Say{Labels: []api.Label{la, {}}}, api.ErrName},
		{api.Say{Labels: []api.Label{{}}, Text: strings.Repeat("t", api.MaxWord+1)}, api.ErrName}, {api.Say{Labels: []api.Label{{Name: strings.Repeat("n", 212)}, {}}}, api.ErrLong},
		{api.Say{Text: strings.Repeat("t", api.MaxWord+1)}, api.ErrLong}, {api.Say{Data: make([]byte, api.MaxWord+1)}, api.ErrLong},
	} {
		for _, err := range []api.Errno{0, 12, -1} {
			x.a.Err = err
			if b, e := EncodeSay(x.a); len(b) != 0 || e != x.want {
				t.Errorf("P16.1: EncodeSay(%s) = %s, %d, want %d", showSay(x.a), brief(b), e, x.want)
			}
		}
	}
	for _, a := range []api.Say{{Labels: many(4096, longest.Name)}, {Text: strings.Repeat("t", api.MaxWord), Data: make([]byte, api.MaxWord)}} {
		want, _ := plainEncodeSay(a)
		if b, e := EncodeSay(a); string(b) != want || e != api.OK {
			t.Errorf("P16.1: EncodeSay(%s) = %s, %d", showSay(a), brief(b), e)
		}
		if back, e, n := DecodeSay([]byte(want)); showSay(back) != showSay(a) || e != api.OK || n != len(want) {
			t.Errorf("P16.2: DecodeSay = %s, %d, %d", showSay(back), e, n)
		}
	}
}
