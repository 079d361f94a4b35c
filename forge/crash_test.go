package forge

import (
	"encoding/binary"
	"fmt"
	"hash/crc32"
	"slices"
	"testing"

	"graft/api"
	"graft/journal"
	"graft/label"
	"graft/modulo"
	"graft/recipe"
)

// record is one of a journal's, as chapter 11 lays it.
func record(kind byte, number uint64, body string) string {
	front := binary.LittleEndian.AppendUint64([]byte{0x9e, kind}, number)
	front = binary.LittleEndian.AppendUint32(front, uint32(len(body)))
	return summed(string(front)) + summed(body)
}

func summed(s string) string {
	return s + string(binary.LittleEndian.AppendUint32(nil, crc32.ChecksumIEEE([]byte(s))))
}

// lastBatch is a shelf's state on a device whose next batch is the last that there can be.
func lastBatch(t *testing.T, w *world) *journal.Device {
	t.Helper()
	if e := w.s.Compact(); e != api.OK {
		t.Fatalf("P12.2: %d", e)
	}
	story, e, _, _ := journal.Replay(w.v.Disk())
	if e != api.OK {
		t.Fatalf("P11.5: %d", e)
	}
	out := record(1, 1, string(binary.LittleEndian.AppendUint64(nil, 1<<62)))
	for i, body := range story.Base {
		out += record(2, uint64(i), string(body))
	}
	out += record(3, uint64(len(story.Base)), "")
	return journal.NewDevice(api.Disk{Files: [2][]byte{[]byte(out)}})
}

// states is what a shelf tells behind each recipe of a plan, from the first state on.
func (w *world) states(asked []api.Want) []string {
	w.t.Helper()
	plan, e, _ := Plan(w.s, asked)
	if e != api.OK {
		w.t.Fatalf("P14.4: %d", e)
	}
	set, _, _ := plainAsked(w.s, asked)
	again := w.again(1 << 24)
	out := []string{tellShelf(again.s)}
	for _, l := range plan {
		if _, e, _, _ := plainDo(again.s, *set.at(l)); e != api.OK {
			w.t.Fatalf("P14.7: %d", e)
		}
		out = append(out, tellShelf(again.s))
	}
	return out
}

// At every moment, with every number of loose bytes, whole recipes are done; and Make there goes on to the end.
func TestCrash(t *testing.T) {
	for name, build := range map[string]func(t *testing.T) (*world, []api.Want){
		"all modes": func(t *testing.T) (*world, []api.Want) { w, l := rich(t); return w, wants(l[5], l[3]) },
		"cut off":   func(t *testing.T) (*world, []api.Want) { w, l := rich(t); return w, wants(l[4], l[6]) },
		"free ones": func(t *testing.T) (*world, []api.Want) {
			w := newWorld(t)
			var l []api.Label
			for i := range 5 {
				l = append(l, w.lay("r", recipeOf(2*(i%2), "doc out", fmt.Sprint("file out ${doc} ", i), "file doc ${out}")))
			}
			return w, wants(l...)
		},
	} {
		w, asked := build(t)
		states := w.states(asked)
		whole := w.again(1 << 24)
		before := whole.v.Count()
		done, e := Make(whole.s, asked, 4)
		if e != api.OK || tellShelf(whole.s) != states[len(states)-1] {
			t.Fatalf("%s: P14.6: %d", name, e)
		}
		ends := map[string]int{}
		for n := before; n <= whole.v.Count(); n++ {
			all, _ := whole.v.At(n, [2]int{1 << 30, 1 << 30})
			safe, _ := whole.v.At(n, [2]int{})
			for keep := range len(all.Files[0]) - len(safe.Files[0]) + 1 {
				disk, _ := whole.v.At(n, [2]int{keep, keep})
				v := journal.NewDevice(disk)
				s := mustOpen(t, v, 1<<24)
				files := filesOf(v)[0]
				if _, seen := ends[files]; seen {
					continue
				}
				ends[files] = n
				place := slices.Index(states, tellShelf(s))
				if place < 0 {
					t.Fatalf("%s: P14.11: moment %d, %d bytes: a store between two", name, n, keep)
				}
				if n == whole.v.Count() && place != len(states)-1 {
					t.Errorf("%s: W7: behind the answer it is not there", name)
				}
				f, e := Make(s, asked, 3)
				if e != api.OK || !slices.Equal(f.Mades, done.Mades) || tellShelf(s) != states[len(states)-1] {
					t.Errorf("%s: P14.11: from state %d on: %d, %s", name, place, e, showForging(f))
				}
			}
		}
		if len(ends) != len(states) {
			t.Errorf("%s: %d states, want %d", name, len(ends), len(states))
		}
	}
}

// Each recipe's outputs are there all or none, whatever the moment.
func TestCrashAllOrNone(t *testing.T) {
	w := newWorld(t)
	var asked []api.Want
	for i := range 4 {
		asked = append(asked, want(w.lay("r", recipeOf(2*(i%2), "a b c out", fmt.Sprint("file out ${a} ", i), "file a ${b}", "file b ${c}", "file c ${a}"))))
	}
	before := w.v.Count()
	w.make(asked...)
	for n := before; n <= w.v.Count(); n++ {
		for _, keep := range []int{0, 1, 100, 500, 1 << 20} {
			disk, _ := w.v.At(n, [2]int{keep, keep})
			s := mustOpen(t, journal.NewDevice(disk), 1<<24)
			for _, a := range asked {
				r, _, _ := recipe.Read(w.bytes(a.Recipe))
				there := 0
				for _, o := range r.Outputs {
					l, e, _ := label.Parse(o.Label)
					if e != api.OK {
						l, _ = s.Made(modulo.Key(w.sum(a.Recipe), o.Name))
					}
					if s.Has(l) {
						there++
					}
				}
				if there != 0 && there != 4 {
					t.Errorf("P14.11: moment %d, %d bytes: %d outputs", n, keep, there)
				}
			}
		}
	}
}
