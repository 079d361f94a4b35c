package forge

import (
	"fmt"
	"slices"
	"strings"
	"testing"

	"graft/api"
)

// Ways: a crew of workers runs all jobs, each once, and all have left when it answers, however many there are of either.
func TestSeveralJobs(t *testing.T) {
	w := newWorld(t)
	var jobs []job
	for i := range 20 {
		l := w.lay("r", recipeOf(0, "out", fmt.Sprint("file out ", i)))
		k := read(w.s, l)
		jobs = append(jobs, job{known: k, shelf: w.s, place: 100 - i, resolved: k.recipe})
	}
	for _, n := range []int{1, 2, 3, 19, 20} {
		for _, workers := range []int{1, 2, 7, 16} {
			got := crew(jobs[:n], workers)
			slices.SortFunc(got, func(a, b product) int { return b.place - a.place })
			if len(got) != n {
				t.Fatalf("%d jobs, %d workers: %d products", n, workers, len(got))
			}
			for i, p := range got {
				if p.place != 100-i || p.e != api.OK || len(p.objects) != 1 || string(p.objects[0].Ark) != string(arkFor(file(fmt.Sprint(i)))) {
					t.Errorf("%d jobs, %d workers: product %d: %d, %d", n, workers, i, p.place, p.e)
				}
			}
		}
	}
}

// Who runs ahead: only what needs nothing that is yet to be done, no more than there are workers, and nothing twice.
func TestJobsAhead(t *testing.T) {
	w := newWorld(t)
	base := w.lay("b", float("file out b"))
	var asked []api.Want
	for i := range 30 {
		asked = append(asked, want(w.lay("r", float(fmt.Sprint("file out ", i)))), want(w.lay("s", asking(float(fmt.Sprint("file out ", i)), base, "out"))))
	}
	for _, workers := range []int{1, 2, 5, 16} {
		again := w.again(1 << 24)
		a, e, _ := gather(again.s, asked)
		if e != api.OK {
			t.Fatalf("P14.3: %d", e)
		}
		plan, _, _, _ := a.plan(asked)
		f := newForging(a, plan, workers)
		for place := range plan {
			if _, there := f.products[place]; !there {
				j, e, _ := f.jobFor(place)
				if e != api.OK {
					t.Fatalf("P14.5: %d", e)
				}
				jobs := f.jobsWith(j)
				if len(jobs) > workers || jobs[0].place != place || workers == 5 && place == 0 && len(jobs) < 2 {
					t.Errorf("%d workers: %d jobs at %d", workers, len(jobs), place)
				}
				for _, j := range jobs {
					if _, there := f.products[j.place]; there || f.needs[j.place] >= place {
						t.Errorf("%d workers: at %d: %d is run ahead", workers, place, j.place)
					}
				}
			}
			if e, _, _ := f.do(place); e != api.OK {
				t.Fatalf("P14.7: %d", e)
			}
			if _, there := f.products[place]; there || len(f.products) > ahead*workers {
				t.Errorf("%d workers: %d products wait", workers, len(f.products))
			}
		}
		if len(f.products) > 0 {
			t.Errorf("%d products are left over", len(f.products))
		}
	}
}

// One long chain beside many free recipes: not all of these are run ahead and kept.
func TestProductsWait(t *testing.T) {
	w := newWorld(t)
	chain := w.lay("c", float("file out c"))
	asked := []api.Want{}
	for i := range 60 {
		chain = w.lay("c", asking(float(fmt.Sprint("file out ", i), "need "+stand(chain, "out")), chain, "out"))
		asked = append(asked, want(w.lay("f", float(fmt.Sprint("file out ", i)))))
	}
	asked = append(asked, want(chain))
	b := bothOn(t, w.v.Disk(), 1<<24)
	told := b.make(asked, 2)
	if !strings.HasPrefix(told, "0 ") {
		t.Errorf("P14.6: %s", told)
	}
	a, _, _ := gather(w.s, asked)
	plan, _, _, _ := a.plan(asked)
	f, most := newForging(a, plan, 2), 0
	for place := range plan {
		f.do(place)
		most = max(most, len(f.products))
	}
	if most > ahead*2 {
		t.Errorf("%d products wait", most)
	}
}

// Many recipes, in a chain and free ones: all of them are run once.
func TestGreatPlan(t *testing.T) {
	w := worldOf(t, api.MaxRoom)
	const n = 300
	var asked []api.Want
	chain := w.lay("c", float("file out c"))
	for i := range n {
		chain = w.lay("c", asking(float(fmt.Sprint("file out ", i), "need "+stand(chain, "out")), chain, "out"))
		asked = append(asked, want(w.lay("f", recipeOf(0, "out", fmt.Sprint("file out ", i)))))
	}
	asked = append(asked, want(chain))
	f, e := Make(w.s, asked, 16)
	if e != api.OK || len(f.Ran) != 2*n+1 || len(f.Mades) != n+1 {
		t.Errorf("P14.6: %d, %d ran", e, len(f.Ran))
	}
}
