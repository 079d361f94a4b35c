package graph

import (
	"cmp"
	"fmt"
	"math/rand/v2"
	"slices"
	"testing"

	"graft/api"
)

// plain reads the chapter's words one by one: all paths of all lengths up to N, with no search.
type plain struct {
	n     int
	paths [][][]bool // paths[k][a][b]: a path of length k leads from a to b
}

func plainOf(g api.Graph) plain {
	p := plain{g.N, [][][]bool{square(g.N)}}
	edge := square(g.N)
	for _, e := range g.Edges {
		edge[e[0]][e[1]] = true
	}
	for a := range g.N {
		p.paths[0][a][a] = true
	}
	for k := range g.N {
		longer := square(g.N)
		for a := range g.N {
			for b := range g.N {
				for c := range g.N {
					longer[a][b] = longer[a][b] || p.paths[k][a][c] && edge[c][b]
				}
			}
		}
		p.paths = append(p.paths, longer)
	}
	return p
}

func square(n int) [][]bool {
	out := make([][]bool, n)
	for i := range out {
		out[i] = make([]bool, n)
	}
	return out
}

// least is the length of the shortest path of some length from a to b; -1 if there is none.
func (p plain) least(from, a, b int) int {
	for k := from; k <= p.n; k++ {
		if p.paths[k][a][b] {
			return k
		}
	}
	return -1
}

func (p plain) reaches(a, b int) bool { return p.least(0, a, b) >= 0 }
func (p plain) needs(a, b int) bool   { return p.n > 0 && p.paths[1][a][b] }
func (p plain) isNode(v int) bool     { return v >= 0 && v < p.n }

// edges is all pairs of nodes that may be an edge, in order, for which something holds.
func (p plain) edges(holds func(a, b int) bool) [][2]int {
	var out [][2]int
	for a := range p.n {
		for b := range p.n {
			if holds(a, b) {
				out = append(out, [2]int{a, b})
			}
		}
	}
	return out
}

// leastPath is the least of all paths of a length from a to b.
func (p plain) leastPath(length, a, b int) []int {
	all := [][]int{{a}}
	for range length {
		var longer [][]int
		for _, path := range all {
			for v := p.n - 1; v >= 0; v-- {
				if p.needs(path[len(path)-1], v) {
					longer = append(longer, append(slices.Clone(path), v))
				}
			}
		}
		all = longer
	}
	all = slices.DeleteFunc(all, func(path []int) bool { return path[length] != b })
	return slices.MinFunc(all, slices.Compare[[]int])
}

func (p plain) way(a, b int) ([]int, api.Errno) {
	if !p.isNode(a) || !p.isNode(b) {
		return nil, api.ErrVertex
	}
	k := p.least(0, a, b)
	if k < 0 {
		return nil, api.ErrNone
	}
	return p.leastPath(k, a, b), api.OK
}

// each is the nodes that roots reach, each with its distance, in order; false if a root is no node.
func (p plain) each(roots []int) ([][2]int, bool) {
	var out [][2]int
	for v := range p.n {
		distance := -1
		for _, r := range roots {
			if !p.isNode(r) {
				return nil, false
			}
			if k := p.least(0, r, v); k >= 0 && (distance < 0 || k < distance) {
				distance = k
			}
		}
		if distance >= 0 {
			out = append(out, [2]int{v, distance})
		}
	}
	slices.SortStableFunc(out, func(x, y [2]int) int { return cmp.Compare(x[1], y[1]) })
	return out, p.n > 0 || len(roots) == 0
}

// groups picks, again and again, of all groups that may come next the one with the least member.
func (p plain) groups() [][]int {
	var out [][]int
	stands := make([]bool, p.n)
	for range p.n {
		for v := range p.n { // by rising least members
			if members := p.group(v); !stands[v] && p.mayCome(members, stands) {
				out = append(out, members)
				for _, w := range members {
					stands[w] = true
				}
				break
			}
		}
	}
	return out
}

func (p plain) group(v int) []int {
	var out []int
	for w := range p.n {
		if p.reaches(v, w) && p.reaches(w, v) {
			out = append(out, w)
		}
	}
	return out
}

func (p plain) mayCome(members []int, stands []bool) bool {
	for _, v := range members {
		for w := range p.n {
			if p.needs(v, w) && !slices.Contains(members, w) && !stands[w] {
				return false
			}
		}
	}
	return true
}

func (p plain) condense() (api.Graph, []int) {
	groups := p.groups()
	of := make([]int, p.n)
	for v := range of {
		of[v] = slices.IndexFunc(groups, func(members []int) bool { return slices.Contains(members, v) })
	}
	small := plain{n: len(groups)}
	return api.Graph{N: len(groups), Edges: small.edges(func(i, j int) bool {
		return i != j && slices.ContainsFunc(groups[i], func(a int) bool {
			return slices.ContainsFunc(groups[j], func(b int) bool { return p.needs(a, b) })
		})
	})}, of
}

// cycle is the witness; none if there is no cycle.
func (p plain) cycle() []int {
	for a := range p.n {
		if k := p.least(1, a, a); k > 0 {
			return p.leastPath(k, a, a)[:k]
		}
	}
	return nil
}

func (p plain) levels() []int {
	out := make([]int, p.n)
	for k := range p.paths {
		for v := range p.n {
			if slices.Contains(p.paths[k][v], true) {
				out[v] = k
			}
		}
	}
	return out
}

// hold holds every call of a graph against the plain reading of the chapter.
func hold(t *testing.T, g api.Graph) {
	t.Helper()
	p := plainOf(g)
	norm := api.Graph{N: g.N, Edges: p.edges(p.needs)}
	back := api.Graph{N: g.N, Edges: p.edges(func(a, b int) bool { return p.needs(b, a) })}
	e, at := Check(g)
	check(t, g, "Check", list(e, at), list(api.OK, 0))
	check(t, g, "Norm", list(Norm(g)), list(norm, api.OK))
	check(t, g, "Transpose", list(Transpose(g)), list(back, api.OK))
	check(t, g, "Groups", list(Groups(g)), list(p.groups(), api.OK))
	small, of := p.condense()
	check(t, g, "Condense", list(Condense(g)), list(small, of, api.OK))
	holdPairs(t, g, p)
	if cycle := p.cycle(); cycle != nil {
		check(t, g, "Cycle", list(Cycle(g)), list(cycle, api.OK))
		check(t, g, "Order", list(Order(g)), list([]int(nil), api.ErrCycle))
		check(t, g, "Levels", list(Levels(g)), list([]int(nil), api.ErrCycle))
		check(t, g, "Reduce", list(Reduce(g)), list(api.Graph{}, api.ErrCycle))
		return
	}
	reduced := api.Graph{N: g.N, Edges: p.edges(func(a, b int) bool { return p.needs(a, b) && p.least(2, a, b) < 0 })}
	check(t, g, "Cycle", list(Cycle(g)), list([]int(nil), api.ErrNone))
	check(t, g, "Order", list(Order(g)), list(slices.Concat(p.groups()...), api.OK))
	check(t, g, "Levels", list(Levels(g)), list(p.levels(), api.OK))
	check(t, g, "Reduce", list(Reduce(g)), list(reduced, api.OK))
}

// holdPairs holds what is asked of two nodes, and of one or two roots, those that are none among them.
func holdPairs(t *testing.T, g api.Graph, p plain) {
	t.Helper()
	holdRoots(t, g, p, nil)
	for a := -1; a <= g.N; a++ {
		holdRoots(t, g, p, []int{a})
		for b := -1; b <= g.N; b++ {
			way, e := p.way(a, b)
			check(t, g, fmt.Sprint("Way ", a, b), list(Way(g, a, b)), list(way, e))
			reaches := e == api.OK
			if e == api.ErrNone {
				e = api.OK
			}
			check(t, g, fmt.Sprint("Reaches ", a, b), list(Reaches(g, a, b)), list(reaches, e))
			holdRoots(t, g, p, []int{b, a})
		}
	}
}

func holdRoots(t *testing.T, g api.Graph, p plain, roots []int) {
	t.Helper()
	pairs, ok := p.each(roots)
	e := api.OK
	if !ok {
		e = api.ErrVertex
	}
	var closure []int
	for _, x := range pairs {
		closure = append(closure, x[0])
	}
	slices.Sort(closure)
	check(t, g, fmt.Sprint("Each ", roots), list(gather(Each(g, roots))), list(pairs))
	check(t, g, fmt.Sprint("Close ", roots), list(Close(g, roots)), list(closure, e))
}

// gather is all that is gone over.
func gather(each func(func(int, int) bool)) [][2]int {
	var out [][2]int
	for v, distance := range each {
		out = append(out, [2]int{v, distance})
	}
	return out
}

// list is the answers of one call.
func list(values ...any) []any { return values }

// check holds answers against what they must be; nil and empty lists are the same.
func check(t *testing.T, g api.Graph, what string, got, want []any) {
	t.Helper()
	if x, y := fmt.Sprintf("%T %v", got, got), fmt.Sprintf("%T %v", want, want); x != y {
		t.Errorf("%s: %s, want %s, of N %d, %d edges: %v", what, x, y, g.N, len(g.Edges), g.Edges[:min(40, len(g.Edges))])
	}
}

func sourceOf(seed uint64) *rand.Rand { return rand.New(rand.NewPCG(seed, 8)) }

// someGraph has edges as they come, some of them twice; without cycles, if it is asked for, its nodes in any order.
func someGraph(r *rand.Rand, n, edges int, free bool) api.Graph {
	g := api.Graph{N: n}
	if n == 0 {
		return g
	}
	place := r.Perm(n)
	for range edges {
		a, b := r.IntN(n), r.IntN(n)
		if free && place[a] == place[b] {
			continue
		}
		if free && place[a] < place[b] {
			a, b = b, a
		}
		g.Edges = append(g.Edges, [2]int{a, b})
	}
	return g
}

// allGraphs is every graph of so many nodes, its edges falling.
func allGraphs(n int) []api.Graph {
	var out []api.Graph
	for bits := range 1 << (n * n) {
		g := api.Graph{N: n}
		for i := n*n - 1; i >= 0; i-- {
			if bits>>i&1 == 1 {
				g.Edges = append(g.Edges, [2]int{i / n, i % n})
			}
		}
		out = append(out, g)
	}
	return out
}

// chain is a row of nodes, each of which needs the one that stands by step behind it.
func chain(n, step int) api.Graph {
	g := api.Graph{N: n}
	for v := range n {
		if w := v + step; w >= 0 && w < n {
			g.Edges = append(g.Edges, [2]int{v, w})
		}
	}
	return g
}

// span is the numbers from one to another, rising or falling, both among them.
func span(from, to int) []int {
	out := []int{from}
	for from < to {
		from++
		out = append(out, from)
	}
	for from > to {
		from--
		out = append(out, from)
	}
	return out
}
