package desk

import (
	"fmt"
	"runtime"
	"slices"
	"strings"
	"sync"
	"testing"
	"time"

	"graft/api"
)

// P18.2, P18.3: several plays at a time.

// wantOf is what a batch answers of a play.
func wantOf(commands string) string {
	text, e, line := Play(commands)
	if e != api.OK {
		text += fmt.Sprintf("fault %d at %d\n", e, line)
	}
	return text
}

// mixed is plays of every kind: those that go well, those with faults, empty ones, one that is too long.
func mixed() []string {
	out := []string{
		"live", "nothing", "", "\n", "live\n\nstore 9", "text t x 1\nshow z", strings.Repeat(" ", api.MaxDesk+1),
		strings.Repeat(" ", api.MaxDesk), "live\n" + strings.Repeat("x", api.MaxDesk), "stat\nstat", makes + "\nmake r",
	}
	for seed := range uint64(12) {
		out = append(out, chance{sourceOf(9000 + seed)}.script(40))
	}
	return out
}

func TestBatch(t *testing.T) {
	plays := mixed()
	var want []string
	for _, p := range plays {
		want = append(want, wantOf(p))
	}
	if want[1] != "fault 180 at 1\n" || want[4] != "live 0\nfault 181 at 3\n" || want[6] != "fault 1 at 0\n" {
		t.Fatalf("P18.1: %q", want[:7])
	}
	for workers := 1; workers <= api.MaxWork; workers++ {
		got, e := Batch(plays, workers)
		if e != api.OK || !slices.Equal(got, want) {
			t.Errorf("P18.2: %d workers: %d, %q\nwant %q", workers, e, got, want)
		}
	}
}

func TestBatchRefused(t *testing.T) {
	most := make([]string, api.MaxDesks)
	for _, c := range []struct {
		plays   []string
		workers int
		want    api.Errno
	}{
		{nil, 1, api.OK},
		{nil, 16, api.OK},
		{[]string{}, 3, api.OK},
		{nil, 0, api.ErrArg},
		{nil, -1, api.ErrArg},
		{nil, 17, api.ErrArg},
		{nil, -1 << 63, api.ErrArg},
		{nil, 1<<63 - 1, api.ErrArg},
		{[]string{"live"}, 0, api.ErrArg},
		{[]string{"live"}, 17, api.ErrArg},
		{most, 1, api.OK},
		{most, 16, api.OK},
		{append(most, ""), 1, api.ErrArg},
		{append(most, ""), 16, api.ErrArg},
		{append(most, "nothing"), 0, api.ErrArg},
	} {
		got, e := Batch(c.plays, c.workers)
		if e != c.want || c.want != api.OK && got != nil || c.want == api.OK && len(got) != len(c.plays) {
			t.Errorf("P18.2: Batch of %d by %d: %d answers, %d; want %d", len(c.plays), c.workers, len(got), e, c.want)
		}
	}
}

// Each answer goes by its play's place, however long the others take.
func TestBatchOrder(t *testing.T) {
	plays := make([]string, api.MaxDesks)
	for i := range plays {
		plays[i] = strings.Repeat("live\n", (i*37)%200) + fmt.Sprintf("text t x %d", i)
	}
	got, e := Batch(plays, 7)
	if e != api.OK || len(got) != len(plays) {
		t.Fatalf("P18.2: %d answers, %d", len(got), e)
	}
	for i, text := range got {
		if want := strings.Repeat("live 0\n", (i*37)%200) + "text t " + textBase("x", fmt.Sprint(i)) + "\n"; text != want {
			t.Errorf("P18.2: play %d answers %q", i, text)
		}
	}
}

// The same play several times in one batch: each is what it is alone.
func TestBatchSame(t *testing.T) {
	script := lines(abc, "guest a of $b", "guest b $a", "import", "rewrite a", "list", "sames", makes, "make r", "push a!", "files", "crash 1 9 9", "stat")
	want := wantOf(script)
	for _, workers := range []int{1, 2, 16} {
		got, e := Batch(slices.Repeat([]string{script}, 20), workers)
		if e != api.OK || !slices.Equal(got, slices.Repeat([]string{want}, 20)) {
			t.Errorf("W15: %d workers: %d", workers, e)
		}
	}
}

func TestBatchMemory(t *testing.T) {
	room := []string{"live", "nothing", "stat", "spare", "spare"}
	plays := room[:3:5]
	before := slices.Clone(room)
	one, _ := Batch(plays, 2)
	two, _ := Batch(plays, 2)
	if !slices.Equal(room, before) {
		t.Errorf("P18.2: what was handed in is %q", room)
	}
	want := slices.Clone(two)
	one = append(one, "more")
	for i := range one[:cap(one)] {
		one[:cap(one)][i] = "other"
	}
	if !slices.Equal(two, want) || !slices.Equal(room, before) {
		t.Errorf("P18.2: %q and %q share memory", two, room)
	}
	for i := range room {
		room[i] = "turned"
	}
	if !slices.Equal(two, want) {
		t.Errorf("P18.2: an answer changed to %q", two)
	}
}

// All workers have left when Batch answers.
func TestSeveralLeft(t *testing.T) {
	before := runtime.NumGoroutine()
	for range 20 {
		Batch([]string{"live", "text t x 1", makes + "\nmake r"}, 16)
		Batch(nil, 16)
		Batch([]string{"nothing"}, 16)
	}
	// What has sent its last word may not have been taken off the list at once.
	for i := 0; runtime.NumGoroutine() > before; i++ {
		if i == 100 {
			t.Fatalf("P18.2: %d goroutines, %d at first", runtime.NumGoroutine(), before)
		}
		time.Sleep(time.Millisecond)
	}
}

// Plays and batches beside one another: each is what it is alone.
func TestSeveralAtOnce(t *testing.T) {
	plays := mixed()
	var want []string
	for _, p := range plays {
		want = append(want, wantOf(p))
	}
	var left sync.WaitGroup
	for i := range 8 {
		left.Go(func() {
			if i%2 == 0 {
				if got, e := Batch(plays, 1+i*2); e != api.OK || !slices.Equal(got, want) {
					t.Errorf("W15: a batch beside others: %d, %q", e, got)
				}
				return
			}
			for k := range plays {
				n := (k + i) % len(plays)
				if got := wantOf(plays[n]); got != want[n] {
					t.Errorf("W15: play %d beside others: %q, want %q", n, got, want[n])
				}
			}
		})
	}
	left.Wait()
}

// The table of commands is made once, whoever asks for it first.
func TestOnce(t *testing.T) {
	b := new(book)
	if len(b.rows) != 0 {
		t.Fatal("18.4: the table is there ahead of its use")
	}
	firsts := make([]*row, 16)
	var left sync.WaitGroup
	for i := range firsts {
		left.Go(func() {
			if _, ok := b.row("stat"); !ok {
				t.Error("18.4: no row")
			}
			if _, ok := b.row("nothing"); ok {
				t.Error("18.4: a row of nothing")
			}
			firsts[i] = &b.rows[0]
		})
	}
	left.Wait()
	for _, f := range firsts {
		if f != firsts[0] {
			t.Error("18.4: the table was made twice")
		}
	}
}
