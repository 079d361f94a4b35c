package note

import (
	"fmt"
	"math"
	"strings"
	"testing"

	"graft/api"
)

func holdFind(t *testing.T, n api.Note, way string) {
	t.Helper()
	got, e := Find(n, way)
	want, we := plainFind(n, way)
	if e != we || said(got) != said(want) {
		t.Fatalf("Find(%s, %q) = %s, %d; want %s, %d", said(n), way, said(got), e, said(want), we)
	}
}

func findings() api.Note {
	var ten []api.Note
	for i := range 12 {
		ten = append(ten, numNote(float64(100+i)))
	}
	return tableNote(
		fieldOf("a/b", listNote(numNote(7), tableNote(fieldOf("~", numNote(8))))), fieldOf("", nullNote()), fieldOf("~1", numNote(1)), fieldOf("~0", numNote(2)), fieldOf("/", numNote(3)), fieldOf("a", listNote(ten...)),
		fieldOf("0", textNote("zero")), fieldOf("01", textNote("one")), fieldOf("é", boolNote(true)), fieldOf("//", tableNote(fieldOf("", listNote(listNote(), tableNote())))), fieldOf("~/~", numNote(4)),
	)
}

func TestFind(t *testing.T) {
	n := findings()
	for _, x := range []struct {
		way  string
		want api.Note
		e    api.Errno
	}{
		{"", n, api.OK}, {"/", nullNote(), api.OK}, {"/a~1b", listNote(numNote(7), tableNote(fieldOf("~", numNote(8)))), api.OK}, {"/a~1b/0", numNote(7), api.OK}, {"/a~1b/1/~0", numNote(8), api.OK},
		{"/~01", numNote(1), api.OK}, {"/~00", numNote(2), api.OK}, {"/~1", numNote(3), api.OK}, {"/~0~1~0", numNote(4), api.OK}, {"/a/0", numNote(100), api.OK}, {"/a/9", numNote(109), api.OK}, {"/a/10", numNote(110), api.OK}, {"/a/11", numNote(111), api.OK},
		{"/0", textNote("zero"), api.OK}, {"/01", textNote("one"), api.OK}, {"/é", boolNote(true), api.OK}, {"/~1~1", tableNote(fieldOf("", listNote(listNote(), tableNote()))), api.OK}, {"/~1~1/", listNote(listNote(), tableNote()), api.OK}, {"/~1~1//1", tableNote(), api.OK},
		{"/a/12", api.Note{}, api.ErrNone}, {"/a/00", api.Note{}, api.ErrNone}, {"/a/01", api.Note{}, api.ErrNone}, {"/a/", api.Note{}, api.ErrNone}, {"/a/-", api.Note{}, api.ErrNone}, {"/a/-0", api.Note{}, api.ErrNone}, {"/a/-1", api.Note{}, api.ErrNone}, {"/a/+1", api.Note{}, api.ErrNone}, {"/a/1 ", api.Note{}, api.ErrNone}, {"/a/ 1", api.Note{}, api.ErrNone}, {"/a/1.0", api.Note{}, api.ErrNone}, {"/a/1e0", api.Note{}, api.ErrNone}, {"/a/0x1", api.Note{}, api.ErrNone}, {"/a/1_0", api.Note{}, api.ErrNone}, {"/a/١", api.Note{}, api.ErrNone},
		{"/a/18446744073709551616", api.Note{}, api.ErrNone}, {"/a/18446744073709551617", api.Note{}, api.ErrNone}, {"/a/9223372036854775808", api.Note{}, api.ErrNone}, {"/a/9223372036854775807", api.Note{}, api.ErrNone}, {"/a/4294967296", api.Note{}, api.ErrNone}, {"/a/" + strings.Repeat("1", 5000), api.Note{}, api.ErrNone}, {"/a/" + strings.Repeat("0", 5000), api.Note{}, api.ErrNone},
		{"/x", api.Note{}, api.ErrNone}, {"//", api.Note{}, api.ErrNone}, {"/0/0", api.Note{}, api.ErrNone}, {"/a/0/0", api.Note{}, api.ErrNone}, {"/é/", api.Note{}, api.ErrNone}, {"/\xff", api.Note{}, api.ErrNone}, {"/a~1b/1/~0/", api.Note{}, api.ErrNone}, {"/a/b", api.Note{}, api.ErrNone}, {"/~1~1//2", api.Note{}, api.ErrNone}, {"/\xc3", api.Note{}, api.ErrNone}, {"/e\u0301", api.Note{}, api.ErrNone},
		{"a", api.Note{}, api.ErrPath}, {"a/", api.Note{}, api.ErrPath}, {"0", api.Note{}, api.ErrPath}, {"~0", api.Note{}, api.ErrPath}, {"~", api.Note{}, api.ErrPath}, {"/~", api.Note{}, api.ErrPath}, {"/~2", api.Note{}, api.ErrPath}, {"/x/~2", api.Note{}, api.ErrPath}, {"/~~0", api.Note{}, api.ErrPath}, {"/~/0", api.Note{}, api.ErrPath}, {"/a~", api.Note{}, api.ErrPath}, {"/x/y/~a", api.Note{}, api.ErrPath}, {"#/a", api.Note{}, api.ErrPath}, {" /a", api.Note{}, api.ErrPath}, {"/a/0/~\x00", api.Note{}, api.ErrPath}, {"/~-", api.Note{}, api.ErrPath},
	} {
		got, e := Find(n, x.way)
		if e != x.e || said(got) != said(x.want) {
			t.Errorf("Find by %.60q = %.100s, %d; want %.100s, %d", x.way, said(got), e, said(x.want), x.e)
		}
		holdFind(t, n, x.way)
	}
}

func TestFindEvery(t *testing.T) {
	n := findings()
	everyWord([]string{"/", "~", "0", "1", "2", "a", "é"}, 5, func(way string) { holdFind(t, n, way) })
	list := listNote(numNote(1), n, listNote(n))
	everyWord([]string{"/", "~", "0", "1", "2", "a"}, 5, func(way string) { holdFind(t, list, way) })
	for _, n := range []api.Note{nullNote(), boolNote(true), numNote(0), textNote("a"), listNote(), tableNote()} {
		for _, way := range []string{"", "/", "/0", "/a", "//", "a", "/~"} {
			holdFind(t, n, way)
		}
	}
	for i := range 120 {
		holdFind(t, listNote(many(100, numNote(float64(i)))...), fmt.Sprint("/", i))
	}
}

// The note's own fault is told ahead of the way's.
func TestFindFaults(t *testing.T) {
	for _, x := range []struct {
		n api.Note
		e api.Errno
	}{
		{api.Note{}, api.ErrNote}, {textNote("\xff"), api.ErrUtf}, {tableNote(fieldOf("a", numNote(1)), fieldOf("a", numNote(2))), api.ErrPair}, {storeys(65, false, nullNote()), api.ErrNest}, {textNote(strings.Repeat("x", 65535)), api.ErrLong}, {listNote(numNote(1), numNote(math.NaN())), api.ErrNote},
	} {
		for _, way := range []string{"", "/0", "a", "/~", "/a"} {
			if got, e := Find(x.n, way); e != x.e || said(got) != said(api.Note{}) {
				t.Errorf("Find(%.60s, %q) = %s, %d; want %d", said(x.n), way, said(got), e, x.e)
			}
		}
	}
}

func TestFindLong(t *testing.T) {
	n := storeys(64, true, numNote(5))
	if got, e := Find(n, strings.Repeat("/a", 64)); e != api.OK || got.Num != 5 {
		t.Errorf("%s, %d", said(got), e)
	}
	for way, want := range map[string]api.Errno{
		strings.Repeat("/a", 65): api.ErrNone, strings.Repeat("/a", 1<<20): api.ErrNone, strings.Repeat("/a", 1<<20) + "~": api.ErrPath, "/" + strings.Repeat("a", 1<<20): api.ErrNone, strings.Repeat("~1", 1<<20): api.ErrPath, "/" + strings.Repeat("~1", 1<<20): api.ErrNone,
	} {
		if _, e := Find(n, way); e != want {
			t.Errorf("Find by %.20q: %d", way, e)
		}
	}
}
