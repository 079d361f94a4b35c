package graph

import (
	"fmt"
	"slices"
	"testing"

	"graft/api"
)

// P8.3: it stops as soon as the one who asks has had enough, and begins anew each time.
func TestEachStops(t *testing.T) {
	g := example()
	each := Each(g, []int{3, 4})
	all := gather(each)
	check(t, g, "Each", list(all), list([][2]int{{3, 0}, {4, 0}, {0, 1}, {2, 1}, {1, 2}}))
	for enough := 1; enough <= len(all)+1; enough++ {
		var got [][2]int
		each(func(v, distance int) bool {
			got = append(got, [2]int{v, distance})
			return len(got) < enough
		})
		check(t, g, fmt.Sprint("enough at ", enough), list(got), list(all[:min(enough, len(all))]))
		check(t, g, "again", list(gather(each)), list(all))
	}
}

// P8.3: also while another going over it is under way.
func TestEachNested(t *testing.T) {
	g := example()
	each := Each(g, []int{3})
	all := gather(each)
	var outer [][2]int
	for v, distance := range each {
		outer = append(outer, [2]int{v, distance})
		var inner [][2]int
		for w, far := range each {
			inner = append(inner, [2]int{w, far})
			for range each {
				break
			}
		}
		check(t, g, "inner", list(inner), list(all))
	}
	check(t, g, "outer", list(outer), list(all))
}

// P8.3: it goes over the graph and the roots as they were when Each was called, whatever becomes of them.
func TestEachKeepsNothing(t *testing.T) {
	g, roots := example(), []int{3, 4}
	all := gather(Each(example(), []int{3, 4}))
	each := Each(g, roots)
	overwrite := func(v int) {
		for i := range g.Edges {
			g.Edges[i] = [2]int{v, v}
		}
		for i := range roots {
			roots[i] = v
		}
	}
	for _, v := range []int{1, 4, -1, 99} {
		overwrite(v)
		check(t, g, "overwritten", list(gather(each)), list(all))
	}
	var got [][2]int
	for v, distance := range each {
		overwrite(v)
		got = append(got, [2]int{v, distance})
	}
	check(t, g, "overwritten while it is under way", list(got), list(all))
	bad := api.Graph{N: 2, Edges: [][2]int{{0, 2}}}
	each = Each(bad, []int{0})
	bad.Edges[0] = [2]int{0, 1}
	check(t, bad, "mended behind the call", list(gather(each)), list([][2]int(nil)))
	roots = []int{7}
	each = Each(bad, roots)
	roots[0] = 0
	check(t, bad, "a root mended behind the call", list(gather(each)), list([][2]int(nil)))
}

// Several at one time have nothing in common.
func TestEachesApart(t *testing.T) {
	r := sourceOf(2)
	var graphs []api.Graph
	var eaches []func(func(int, int) bool)
	for range 50 {
		g := someGraph(r, 20, 40, false)
		graphs = append(graphs, g)
		eaches = append(eaches, Each(g, []int{r.IntN(20)}))
	}
	var first []string
	for _, each := range eaches {
		first = append(first, fmt.Sprint(gather(each)))
	}
	for i, each := range slices.Backward(eaches) {
		if got := fmt.Sprint(gather(each)); got != first[i] {
			t.Errorf("%v: %s, then %s", graphs[i], first[i], got)
		}
	}
}
