package forge

import (
	"sync"
	"sync/atomic"

	"graft/api"
	"graft/shelf"
)

// job is a recipe that can be run: all that it needs is on the shelf.
type job struct {
	known
	shelf    *shelf.Shelf
	place    int // in the plan
	resolved api.Recipe
	bare     api.Sum // a floating one's, without inputs: that of all recipes that are resolved alike
	hasBare  bool    // there is such a sum
}

// product is what came of a job: objects for the shelf; or the error and the step's number.
type product struct {
	place   int
	objects []api.Object
	e       api.Errno
	step    int
}

// crew lets so many workers run jobs, each of which needs none of the others; all workers have left when it answers. What was
// made comes in any order: it goes by its place.
func crew(jobs []job, workers int) []product {
	todo, made := make(chan job, len(jobs)), make(chan product)
	for _, j := range jobs {
		todo <- j
	}
	close(todo)
	var atWork atomic.Int64
	var left sync.WaitGroup
	hands := min(workers, len(jobs))
	atWork.Store(int64(hands))
	for range hands {
		left.Add(1)
		go func() {
			defer left.Done()
			for j := range todo {
				made <- j.forge()
			}
			// The last one at work tells that nothing more comes.
			if atWork.Add(-1) == 0 {
				close(made)
			}
		}()
	}
	var out []product
	for p := range made {
		out = append(out, p)
	}
	left.Wait()
	return out
}

// forge runs a job's steps, and makes objects of what they made.
func (j job) forge() product {
	p := product{place: j.place}
	closure, _, _ := j.shelf.Closure(parsedAll(j.resolved.Sources)) // all of them are there
	labels := j.outputLabels()
	r := withLabels(j.resolved, labels) // but for floating ones they are there already
	trees, e, step := run(r, func(l api.Label) []byte { return arkOf(j.shelf, closure, l) })
	if e != api.OK {
		p.e, p.step = e, step
		return p
	}
	objects, ok := j.shape(trees, closure, labels)
	if !ok {
		p.e, p.step = api.ErrMade, len(r.Args)
		return p
	}
	p.objects = objects
	return p
}

// parsedAll is the labels of texts of which it is known that they are labels'.
func parsedAll(texts []string) []api.Label {
	out := make([]api.Label, len(texts))
	for i, text := range texts {
		out[i] = parsed(text)
	}
	return out
}

// arkOf is the archive of an object in a closure; no bytes if it is not there.
func arkOf(s *shelf.Shelf, closure []api.Label, l api.Label) []byte {
	if !among(closure, l) {
		return nil
	}
	o, _ := s.Get(l)
	return o.Ark
}
