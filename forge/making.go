package forge

import (
	"graft/api"
	"graft/modulo"
	"graft/recipe"
)

// ahead is how many products for each worker may wait for their turn: products may be large.
const ahead = 4

// forging is a Make under way.
type forging struct {
	*asked
	plan     []int
	needs    []int // of each recipe of the plan the last place in it that has to be done ahead; -1: none has
	workers  int
	products map[int]product // by their places in the plan: what was run and has not had its turn
	ran      []api.Label
}

func newForging(a *asked, plan []int, workers int) *forging {
	f := &forging{asked: a, plan: plan, workers: workers, products: make(map[int]product)}
	place := make(map[int]int, len(plan))
	for p, i := range plan {
		last := -1
		for _, l := range a.list[i].inputs {
			if q, there := place[a.number[l]]; there {
				last = max(last, q)
			}
		}
		f.needs = append(f.needs, last)
		place[i] = p
	}
	return f
}

// do does the recipe at a place of the plan, all those ahead of it having been done: OK, or the error, the label that it is about
// and the step's number.
func (f *forging) do(place int) (api.Errno, api.Label, int) {
	i := f.plan[place]
	k := f.list[i]
	if f.allMade(i, k.outputNames()) {
		delete(f.products, place)
		return api.OK, api.Label{}, 0
	}
	j, e, at := f.jobFor(place)
	if e != api.OK {
		return e, at, 0
	}
	if steps, there := j.madeBefore(); there {
		delete(f.products, place)
		return f.apply(k, steps)
	}
	p := f.productOf(j)
	if p.e != api.ErrStep {
		f.ran = append(f.ran, k.label)
	}
	if p.e != api.OK {
		return p.e, k.label, p.step
	}
	return f.apply(k, j.transaction(p.objects))
}

// apply does a recipe's one transaction.
func (f *forging) apply(k known, steps []api.Step) (api.Errno, api.Label, int) {
	if e, _ := f.shelf.Apply(steps); e != api.OK {
		return e, k.label, 0
	}
	return api.OK, api.Label{}, 0
}

// jobFor is the job of the recipe at a place of the plan; or Resolve's error and label.
func (f *forging) jobFor(place int) (job, api.Errno, api.Label) {
	i := f.plan[place]
	r, e, at := f.resolve(i)
	if e != api.OK {
		return job{}, e, at
	}
	j := job{place: place, shelf: f.shelf, known: f.list[i], resolved: r}
	if j.mode == floating {
		j.bare, j.hasBare = bareSum(j.name, r)
	}
	return j, api.OK, api.Label{}
}

// bareSum is the sum of a recipe that was resolved; false if it has none.
func bareSum(name string, r api.Recipe) (api.Sum, bool) {
	sum, e, _ := modulo.Hash(name, recipe.Blank(r), nil)
	return sum, e == api.OK
}

// madeBefore is the steps that say that a recipe comes to what another one has come to that was resolved alike; false if there is
// none.
func (j job) madeBefore() ([]api.Step, bool) {
	if !j.hasBare {
		return nil, false
	}
	var steps []api.Step
	for _, o := range j.resolved.Outputs {
		l, e := j.shelf.Made(modulo.Key(j.bare, o.Name))
		if e != api.OK {
			return nil, false
		}
		steps = append(steps, madeStep(j.sum, o.Name, l))
	}
	return steps, true
}

func madeStep(sum api.Sum, output string, l api.Label) api.Step {
	return api.Step{Kind: api.StepMade, Made: api.Made{Key: modulo.Key(sum, output), Label: l}}
}

// transaction is the steps that put what was made on the shelf.
func (j job) transaction(objects []api.Object) []api.Step {
	var steps []api.Step
	for _, o := range objects {
		// What is called after inputs stays as it is there.
		if j.mode != byInputs || !j.shelf.Has(o.Label) {
			steps = append(steps, api.Step{Kind: api.StepPut, Object: o})
		}
	}
	if j.mode != floating {
		return steps
	}
	for i, o := range j.resolved.Outputs {
		steps = append(steps, madeStep(j.sum, o.Name, objects[i].Label))
		if j.hasBare && j.bare != j.sum {
			steps = append(steps, madeStep(j.bare, o.Name, objects[i].Label))
		}
	}
	return steps
}

// productOf is what came of a job, which is run now if it was not run ahead of its turn.
func (f *forging) productOf(j job) product {
	if _, there := f.products[j.place]; !there {
		for _, p := range crew(f.jobsWith(j), f.workers) {
			f.products[p.place] = p
		}
	}
	p := f.products[j.place]
	delete(f.products, j.place)
	return p
}

// jobsWith is a job whose turn it is, and some of those behind it that can be run at the same time: they need nothing that is yet
// to be done.
func (f *forging) jobsWith(j job) []job {
	jobs := []job{j}
	for place := j.place + 1; place < len(f.plan) && f.free(len(jobs)); place++ {
		if f.needs[place] >= j.place {
			continue
		}
		if next, ok := f.jobAhead(place); ok {
			jobs = append(jobs, next)
		}
	}
	return jobs
}

// jobAhead is the job of a recipe ahead of its turn; false if it was run already, need not be run, or can't be run by what is
// there now. What is on the shelf stays as it is, so one that can be resolved now is resolved likewise when its turn comes.
func (f *forging) jobAhead(place int) (job, bool) {
	i := f.plan[place]
	if _, run := f.products[place]; run || f.allMade(i, f.list[i].outputNames()) {
		return job{}, false
	}
	j, e, _ := f.jobFor(place)
	if e != api.OK {
		return job{}, false
	}
	_, before := j.madeBefore()
	return j, !before
}

// free says whether a worker has nothing to do beside so many jobs, and there is room for what it makes.
func (f *forging) free(jobs int) bool {
	return jobs < f.workers && len(f.products)+jobs < ahead*f.workers
}
