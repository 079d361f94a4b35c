package note

import (
	"math"
	"testing"

	"graft/api"
)

// The chapter's examples.
func TestExamples(t *testing.T) {
	for _, x := range []struct {
		text string
		e    api.Errno
		at   int
	}{
		{"", api.ErrShort, 0}, {" ", api.ErrShort, 1}, {"nul", api.ErrShort, 3}, {"nulL", api.ErrJson, 3}, {"[1,]", api.ErrJson, 3}, {"[1 2]", api.ErrJson, 3}, {"01", api.ErrTail, 1}, {"-", api.ErrShort, 1}, {"1.e", api.ErrJson, 2}, {"{\"a\":1,\"a\" x", api.ErrPair, 7}, {`"\ud800\u0041"`, api.ErrUtf, 1}, {"[1e400x", api.ErrRange, 1}, {"[1e400", api.ErrRange, 1},
	} {
		if n, e, at := Parse(x.text); e != x.e || at != x.at || said(n) != said(api.Note{}) {
			t.Errorf("Parse(%q) = %s, %d, %d", x.text, said(n), e, at)
		}
	}
	if n, e, _ := Parse(`"\ud83d\ude00"`); e != api.OK || n.Text != "\xf0\x9f\x98\x80" {
		t.Errorf("%q, %d", n.Text, e)
	}
	for _, x := range []struct {
		text string
		want float64
		e    api.Errno
	}{
		{"0.1", 3602879701896397 * math.Ldexp(1, -55), api.OK}, {"9007199254740993", 9007199254740992, api.OK}, {"1.7976931348623159e308", 0, api.ErrRange}, {"4.9e-324", math.Ldexp(1, -1074), api.OK}, {"2.4703282292062327e-324", 0, api.OK},
	} {
		if got, e := Number(x.text); got != x.want || e != x.e {
			t.Errorf("Number(%s) = %v, %d", x.text, got, e)
		}
	}
	for _, x := range []struct {
		num  float64
		want string
	}{
		{3602879701896397 * math.Ldexp(1, -55), "0.1"}, {1e21, "1e+21"}, {123456789012345680000, "123456789012345680000"}, {1e-6, "0.000001"}, {1e-7, "1e-7"}, {5e-324, "5e-324"},
	} {
		if got, e := Show(x.num); got != x.want || e != api.OK {
			t.Errorf("Show(%v) = %s, %d", x.num, got, e)
		}
	}
	for text, want := range map[string]string{
		`{"b":1,"a":[],"":null}`: `{"":null,"a":[],"b":1}`, "{\"\ufb33\":1,\"\U0001f600\":2}": "{\"\U0001f600\":2,\"\ufb33\":1}",
	} {
		n, _, _ := Parse(text)
		if got, e := Canon(n); got != want || e != api.OK {
			t.Errorf("Canon(%s) = %s, %d", text, got, e)
		}
	}
	n, _, _ := Parse(`{"a/b":[7,{"~":8}]}`)
	if got, e := Find(n, "/a~1b/1/~0"); e != api.OK || said(got) != said(numNote(8)) {
		t.Errorf("%s, %d", said(got), e)
	}
	for way, want := range map[string]api.Errno{"/a~1b/01": api.ErrNone, "a": api.ErrPath} {
		if got, e := Find(n, way); e != want || said(got) != said(api.Note{}) {
			t.Errorf("Find by %s: %s, %d", way, said(got), e)
		}
	}
}
