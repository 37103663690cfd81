package topo_test

import (
	"math"
	"math/rand/v2"
	"reflect"
	"slices"
	"testing"

	"layout/api"
	"layout/digraph"
	"layout/topo"
)

const (
	maxN = 64
	maxM = 256
)

// arcs returns the arcs with these ends, in pairs.
func arcs(ends ...int) []api.Arc {
	list := []api.Arc{}
	for i := 0; i+1 < len(ends); i += 2 {
		list = append(list, api.Arc{From: ends[i], To: ends[i+1]})
	}
	return list
}

// along returns the digraph whose arcs lead from each vertex of the list to the
// next one, each of them times over.
func along(list []int, times int) api.Digraph {
	g := api.Digraph{N: len(list)}
	for range times {
		for i := 1; i < len(list); i++ {
			g.Arcs = append(g.Arcs, api.Arc{From: list[i-1], To: list[i]})
		}
	}
	return g
}

// around returns the digraph with the arcs along the list and one from its end to
// its start.
func around(list []int) api.Digraph {
	g := along(list, 1)
	g.Arcs = append(g.Arcs, api.Arc{From: list[len(list)-1], To: list[0]})
	return g
}

// dense returns a digraph without cycles with as many vertices and arcs as there
// may be: each vertex has arcs to the four that follow it in the list.
func dense(list []int) api.Digraph {
	g := api.Digraph{N: len(list)}
	for i := range list {
		for step := 1; step <= 4; step++ {
			if i+step < len(list) {
				g.Arcs = append(g.Arcs, api.Arc{From: list[i], To: list[i+step]})
			}
		}
	}
	for len(g.Arcs) < maxM {
		g.Arcs = append(g.Arcs, api.Arc{From: list[0], To: list[len(list)-1]})
	}
	return g
}

// upTo returns the numbers from 0 to n - 1.
func upTo(n int) []int {
	list := []int{}
	for i := range n {
		list = append(list, i)
	}
	return list
}

// downFrom returns the numbers from n - 1 to 0.
func downFrom(n int) []int {
	list := upTo(n)
	slices.Reverse(list)
	return list
}

// mixed returns the numbers from 0 to maxN - 1 in an order of few runs.
func mixed() []int {
	list := []int{}
	for i := range maxN {
		list = append(list, (i*27+5)%maxN)
	}
	return list
}

// far returns numbers that are far out of range.
func far() []int {
	return []int{math.MinInt, math.MinInt + 1, math.MinInt32, -1 << 32, -1 << 16, -257, -256, -65, -64, 64, 256, 257, 1 << 16, 1 << 32, 1<<32 + 1, math.MaxInt32, math.MaxInt - 1, math.MaxInt}
}

// closure returns for each pair of vertices of a valid digraph whether the first
// reaches the second.
func closure(g api.Digraph) [][]bool {
	table := [][]bool{}
	for v := range g.N {
		table = append(table, make([]bool, g.N))
		table[v][v] = true
	}
	for _, a := range g.Arcs {
		table[a.From][a.To] = true
	}
	for middle := range g.N {
		for from := range g.N {
			for to := range g.N {
				table[from][to] = table[from][to] || table[from][middle] && table[middle][to]
			}
		}
	}
	return table
}

// isCyclic reports whether an arc of a valid digraph is on a cycle.
func isCyclic(g api.Digraph) bool {
	reaches := closure(g)
	return slices.ContainsFunc(g.Arcs, func(a api.Arc) bool { return reaches[a.To][a.From] })
}

// isForward reports whether the list has all vertices of g once, and all arcs lead
// forward in it.
func isForward(g api.Digraph, list []int) bool {
	if sorted := slices.Sorted(slices.Values(list)); !slices.Equal(sorted, upTo(g.N)) {
		return false
	}
	return !slices.ContainsFunc(g.Arcs, func(a api.Arc) bool {
		return slices.Index(list, a.From) >= slices.Index(list, a.To)
	})
}

// wantedOrder returns what the chapter says of Order for a valid digraph without
// cycles: in each place stands the least vertex that no other one reaches which
// is not listed before.
func wantedOrder(g api.Digraph) []int {
	reaches, list, left := closure(g), []int{}, upTo(g.N)
	for len(left) > 0 {
		i := slices.IndexFunc(left, func(v int) bool {
			return !slices.ContainsFunc(left, func(u int) bool { return u != v && reaches[u][v] })
		})
		list = append(list, left[i])
		left = slices.Delete(left, i, i+1)
	}
	return list
}

// orders returns all orders of the vertices, the lexicographically least first.
func orders(n int) [][]int {
	all := [][]int{{}}
	for range n {
		longer := [][]int{}
		for _, l := range all {
			for v := range n {
				if !slices.Contains(l, v) {
					longer = append(longer, append(slices.Clip(l), v))
				}
			}
		}
		all = longer
	}
	return all
}

// wantedLongest returns what the chapter says of Longest for a valid digraph
// without cycles: a walk of k arcs ends where an arc leads from the end of one of
// k - 1 arcs.
func wantedLongest(g api.Digraph) []int {
	longest, ends := make([]int, g.N), map[int]bool{}
	for v := range g.N {
		ends[v] = true
	}
	for k := 1; len(ends) > 0; k++ {
		longer := map[int]bool{}
		for _, a := range g.Arcs {
			if ends[a.From] {
				longer[a.To] = true
			}
		}
		for v := range longer {
			longest[v] = k
		}
		ends = longer
	}
	return longest
}

// wantedStrong returns what the chapter says of Strong for a valid digraph.
func wantedStrong(g api.Digraph) [][]int {
	reaches, components := closure(g), [][]int{}
	for v := range g.N {
		component := []int{}
		for u := range g.N {
			if reaches[u][v] && reaches[v][u] {
				component = append(component, u)
			}
		}
		if component[0] == v {
			components = append(components, component)
		}
	}
	return components
}

// wantedReach returns what the chapter says of Reach for a vertex of a valid
// digraph with this closure.
func wantedReach(reaches [][]bool, v int) []int {
	list := []int{}
	for u, isIn := range reaches[v] {
		if isIn {
			list = append(list, u)
		}
	}
	return list
}

// checkNothing checks that all functions return nothing for g and all vertices,
// and numbers next to them.
func checkNothing(t *testing.T, g api.Digraph) {
	t.Helper()
	if l, ok := topo.Order(g); ok || len(l) != 0 {
		t.Errorf("Order(%v) = %v, %t", g, l, ok)
	}
	if l, ok := topo.Longest(g); ok || len(l) != 0 {
		t.Errorf("Longest(%v) = %v, %t", g, l, ok)
	}
	if l := topo.Strong(g); len(l) != 0 {
		t.Errorf("Strong(%v) = %v", g, l)
	}
	for v := -2; v < min(max(g.N, 0), maxN)+3; v++ {
		if l := topo.Reach(g, v); len(l) != 0 {
			t.Errorf("Reach(%v, %d) = %v", g, v, l)
		}
	}
}

// checkDigraph checks what all functions return for g, and for Reach for all
// vertices and numbers next to them.
func checkDigraph(t *testing.T, g api.Digraph) {
	t.Helper()
	if !digraph.Valid(g) {
		checkNothing(t, g)
		return
	}
	order, longest, isOk := []int{}, []int{}, !isCyclic(g)
	if isOk {
		order, longest = wantedOrder(g), wantedLongest(g)
	}
	if l, ok := topo.Order(g); ok != isOk || !slices.Equal(l, order) {
		t.Errorf("Order(%v) = %v, %t, want %v, %t", g, l, ok, order, isOk)
	}
	if l, ok := topo.Longest(g); ok != isOk || !slices.Equal(l, longest) {
		t.Errorf("Longest(%v) = %v, %t, want %v, %t", g, l, ok, longest, isOk)
	}
	if l, want := topo.Strong(g), wantedStrong(g); !slices.EqualFunc(l, want, slices.Equal) {
		t.Errorf("Strong(%v) = %v, want %v", g, l, want)
	}
	reaches := closure(g)
	for v := -2; v < g.N+3; v++ {
		want := []int{}
		if v >= 0 && v < g.N {
			want = wantedReach(reaches, v)
		}
		if l := topo.Reach(g, v); !slices.Equal(l, want) {
			t.Errorf("Reach(%v, %d) = %v, want %v", g, v, l, want)
		}
	}
}

// The chapter's examples.
func TestExamples(t *testing.T) {
	g := api.Digraph{N: 4, Arcs: arcs(3, 1, 1, 0)}
	if l, ok := topo.Order(g); !ok || !slices.Equal(l, []int{2, 3, 1, 0}) {
		t.Errorf("Order = %v, %t", l, ok)
	}
	if l, ok := topo.Longest(g); !ok || !slices.Equal(l, []int{2, 1, 0, 0}) {
		t.Errorf("Longest = %v, %t", l, ok)
	}
	pair := api.Digraph{N: 2, Arcs: arcs(0, 1, 1, 0)}
	if l := topo.Strong(pair); !reflect.DeepEqual(l, [][]int{{0, 1}}) {
		t.Errorf("Strong = %v", l)
	}
	if l, ok := topo.Order(pair); ok || len(l) != 0 {
		t.Errorf("Order = %v, %t", l, ok)
	}
}

// P15.1
func TestOrder(t *testing.T) {
	for _, c := range []struct {
		n    int
		arcs []api.Arc
		want []int
		ok   bool
	}{
		{0, nil, nil, true},
		{1, nil, []int{0}, true},
		{3, nil, []int{0, 1, 2}, true},
		{3, arcs(0, 1, 1, 2), []int{0, 1, 2}, true},
		{3, arcs(2, 1, 1, 0), []int{2, 1, 0}, true},
		{3, arcs(2, 0), []int{1, 2, 0}, true},
		{3, arcs(2, 1), []int{0, 2, 1}, true},
		{3, arcs(1, 0, 2, 0), []int{1, 2, 0}, true},
		{2, arcs(1, 0, 1, 0, 1, 0), []int{1, 0}, true},
		{4, arcs(3, 0, 0, 1), []int{2, 3, 0, 1}, true},
		// A vertex that becomes free waits for lesser ones that were free before.
		{5, arcs(0, 4, 1, 2, 4, 3), []int{0, 1, 2, 4, 3}, true},
		// A vertex that becomes free goes before greater ones that were free.
		{5, arcs(3, 0, 3, 1), []int{2, 3, 0, 1, 4}, true},
		{5, arcs(4, 0, 0, 1, 1, 2), []int{3, 4, 0, 1, 2}, true},
		{1, arcs(0, 0), nil, false},
		{2, arcs(0, 1, 1, 1), nil, false},
		{2, arcs(0, 1, 1, 0), nil, false},
		{3, arcs(0, 1, 1, 2, 2, 0), nil, false},
		{4, arcs(0, 1, 1, 2, 2, 1, 2, 3), nil, false},
		{4, arcs(0, 0, 1, 2, 2, 3), nil, false},
		{4, arcs(3, 3, 0, 1, 1, 2), nil, false},
	} {
		g := api.Digraph{N: c.n, Arcs: c.arcs}
		if l, ok := topo.Order(g); ok != c.ok || !slices.Equal(l, c.want) {
			t.Errorf("Order(%v) = %v, %t, want %v, %t", g, l, ok, c.want, c.ok)
		}
		checkDigraph(t, g)
	}
}

// P15.2
func TestLongest(t *testing.T) {
	for _, c := range []struct {
		n    int
		arcs []api.Arc
		want []int
		ok   bool
	}{
		{0, nil, nil, true},
		{1, nil, []int{0}, true},
		{3, nil, []int{0, 0, 0}, true},
		{3, arcs(0, 1, 1, 2), []int{0, 1, 2}, true},
		{3, arcs(2, 1, 1, 0), []int{2, 1, 0}, true},
		{3, arcs(0, 2, 0, 1, 1, 2), []int{0, 1, 2}, true},
		{3, arcs(0, 1, 1, 2, 0, 2), []int{0, 1, 2}, true},
		{2, arcs(1, 0, 1, 0, 1, 0), []int{1, 0}, true},
		{5, arcs(0, 4, 1, 2, 2, 3, 3, 4), []int{0, 0, 1, 2, 3}, true},
		{5, arcs(1, 2, 2, 3, 3, 4, 0, 4), []int{0, 0, 1, 2, 3}, true},
		{5, arcs(4, 3, 3, 0, 4, 2, 2, 1, 1, 0), []int{3, 2, 1, 1, 0}, true},
		{1, arcs(0, 0), nil, false},
		{2, arcs(0, 1, 1, 0), nil, false},
		{4, arcs(0, 1, 1, 2, 2, 1, 2, 3), nil, false},
		{4, arcs(0, 1, 1, 2, 2, 3, 3, 3), nil, false},
	} {
		g := api.Digraph{N: c.n, Arcs: c.arcs}
		if l, ok := topo.Longest(g); ok != c.ok || !slices.Equal(l, c.want) {
			t.Errorf("Longest(%v) = %v, %t, want %v, %t", g, l, ok, c.want, c.ok)
		}
		checkDigraph(t, g)
	}
}

// P15.3
func TestReach(t *testing.T) {
	g := api.Digraph{N: 7, Arcs: arcs(5, 2, 2, 0, 0, 5, 2, 4, 1, 2, 4, 4, 3, 1, 3, 1)}
	for v, want := range [][]int{{0, 2, 4, 5}, {0, 1, 2, 4, 5}, {0, 2, 4, 5}, {0, 1, 2, 3, 4, 5}, {4}, {0, 2, 4, 5}, {6}} {
		if l := topo.Reach(g, v); !slices.Equal(l, want) {
			t.Errorf("Reach(%d) = %v, want %v", v, l, want)
		}
	}
	for _, v := range append(far(), -2, -1, 7, 8) {
		for _, g := range []api.Digraph{g, {}, {N: 1}, {N: 1, Arcs: arcs(0, 0)}, around(upTo(7)), along(upTo(maxN), 4)} {
			if l := topo.Reach(g, v); (v < 0 || v >= g.N) && len(l) != 0 {
				t.Errorf("Reach(%v, %d) = %v", g, v, l)
			}
		}
	}
	checkDigraph(t, g)
}

// P15.4
func TestStrong(t *testing.T) {
	for _, c := range []struct {
		n    int
		arcs []api.Arc
		want [][]int
	}{
		{0, nil, nil},
		{1, nil, [][]int{{0}}},
		{1, arcs(0, 0), [][]int{{0}}},
		{3, nil, [][]int{{0}, {1}, {2}}},
		{3, arcs(2, 1, 1, 0), [][]int{{0}, {1}, {2}}},
		{3, arcs(0, 1, 0, 1), [][]int{{0}, {1}, {2}}},
		{3, arcs(2, 0, 0, 2), [][]int{{0, 2}, {1}}},
		{3, arcs(2, 1, 1, 0, 0, 2), [][]int{{0, 1, 2}}},
		{4, arcs(3, 0, 0, 3, 2, 1, 1, 2), [][]int{{0, 3}, {1, 2}}},
		{4, arcs(3, 0, 0, 3, 2, 1, 1, 2, 0, 1), [][]int{{0, 3}, {1, 2}}},
		{4, arcs(3, 0, 0, 3, 2, 1, 1, 2, 1, 0), [][]int{{0, 3}, {1, 2}}},
		{4, arcs(3, 0, 0, 3, 2, 1, 1, 2, 1, 0, 3, 2), [][]int{{0, 1, 2, 3}}},
		// Two cycles with a vertex in common.
		{5, arcs(4, 2, 2, 4, 2, 0, 0, 2), [][]int{{0, 2, 4}, {1}, {3}}},
		// Between the two vertices of a component lies another component.
		{5, arcs(4, 1, 1, 4, 4, 2, 2, 3, 3, 2, 0, 1), [][]int{{0}, {1, 4}, {2, 3}}},
	} {
		g := api.Digraph{N: c.n, Arcs: c.arcs}
		if l := topo.Strong(g); !slices.EqualFunc(l, c.want, slices.Equal) {
			t.Errorf("Strong(%v) = %v, want %v", g, l, c.want)
		}
		checkDigraph(t, g)
	}
}

// P15.1 to P15.4: digraphs at the limits, also with far more paths than could be
// followed one by one.
func TestLimits(t *testing.T) {
	list := mixed()
	for _, l := range [][]int{upTo(maxN), downFrom(maxN), list} {
		want := make([]int, maxN)
		for i, v := range l {
			want[v] = i
		}
		for _, g := range []api.Digraph{along(l, 1), along(l, 4), dense(l)} {
			if order, ok := topo.Order(g); !ok || !slices.Equal(order, l) {
				t.Errorf("Order(%v) = %v, %t", g, order, ok)
			}
			if longest, ok := topo.Longest(g); !ok || !slices.Equal(longest, want) {
				t.Errorf("Longest(%v) = %v, %t", g, longest, ok)
			}
			if strong := topo.Strong(g); len(strong) != maxN {
				t.Errorf("Strong(%v) = %v", g, strong)
			}
			checkDigraph(t, g)
		}
		g := around(l)
		if strong := topo.Strong(g); len(strong) != 1 || !slices.Equal(strong[0], upTo(maxN)) {
			t.Errorf("Strong(%v) = %v", g, strong)
		}
		if reached := topo.Reach(g, maxN-1); !slices.Equal(reached, upTo(maxN)) {
			t.Errorf("Reach(%v) = %v", g, reached)
		}
		checkDigraph(t, g)
	}
	checkDigraph(t, api.Digraph{N: maxN})
	checkDigraph(t, api.Digraph{N: maxN, Arcs: slices.Repeat(arcs(63, 62), maxM)})
	checkDigraph(t, api.Digraph{N: 1, Arcs: slices.Repeat(arcs(0, 0), maxM)})
	checkDigraph(t, api.Digraph{N: 2, Arcs: append(slices.Repeat(arcs(1, 0), maxM-1), api.Arc{From: 0, To: 1})})
}

// P15.1 to P15.4: nothing is returned for digraphs that are not valid.
func TestInvalidDigraphs(t *testing.T) {
	list := []api.Digraph{
		{N: -1},
		{N: maxN + 1},
		{N: math.MinInt},
		{N: math.MaxInt},
		{N: -1, Arcs: arcs(0, 0)},
		{N: maxN + 1, Arcs: arcs(0, 1, 1, 0)},
		{N: 2, Arcs: slices.Repeat(arcs(0, 1), maxM+1)},
		{N: 0, Arcs: arcs(0, 0)},
	}
	for _, v := range append(far(), -1, 3) {
		list = append(list, api.Digraph{N: 3, Arcs: arcs(0, 1, v, 2)}, api.Digraph{N: 3, Arcs: arcs(0, v, 1, 2)}, api.Digraph{N: 3, Arcs: arcs(v, v)})
	}
	for _, g := range list {
		checkNothing(t, g)
		for _, v := range far() {
			if l := topo.Reach(g, v); len(l) != 0 {
				t.Errorf("Reach(%v, %d) = %v", g, v, l)
			}
		}
	}
}

// lists returns all lists of at most n of the values.
func lists[T any](n int, values []T) [][]T {
	all := [][]T{{}}
	for i := 0; i < len(all); i++ {
		for _, x := range values {
			if len(all[i]) < n {
				all = append(all, append(slices.Clip(all[i]), x))
			}
		}
	}
	return all
}

// arcsBetween returns all arcs whose ends are from least to most.
func arcsBetween(least, most int) []api.Arc {
	list := []api.Arc{}
	for from := least; from <= most; from++ {
		for to := least; to <= most; to++ {
			list = append(list, api.Arc{From: from, To: to})
		}
	}
	return list
}

// checkLeast checks that Order returns the first of the orders, which are all
// orders of the vertices, in which the arcs of g lead forward.
func checkLeast(t *testing.T, g api.Digraph, all [][]int) {
	t.Helper()
	want := []int{}
	first := slices.IndexFunc(all, func(l []int) bool { return isForward(g, l) })
	if first != -1 {
		want = all[first]
	}
	if l, ok := topo.Order(g); ok != (first != -1) || !slices.Equal(l, want) {
		t.Errorf("Order(%v) = %v, %t, want %v", g, l, ok, want)
	}
}

// P15.1 to P15.4: all digraphs of few vertices and at most two arcs with ends in
// range or next to it, of at most four arcs with ends in range, and of four
// vertices with any set of arcs.
func TestAllDigraphs(t *testing.T) {
	for n := -1; n <= 2; n++ {
		for _, l := range lists(2, arcsBetween(-1, max(n, 0))) {
			checkDigraph(t, api.Digraph{N: n, Arcs: l})
		}
	}
	for n := range 4 {
		all := orders(n)
		for _, l := range lists(4, arcsBetween(0, n-1)) {
			g := api.Digraph{N: n, Arcs: l}
			checkDigraph(t, g)
			checkLeast(t, g, all)
		}
	}
	between, all := arcsBetween(0, 3), orders(4)
	for set := range 1 << len(between) {
		g := api.Digraph{N: 4}
		for e, a := range between {
			if set>>e&1 == 1 {
				g.Arcs = append(g.Arcs, a)
			}
		}
		checkDigraph(t, g)
		checkLeast(t, g, all)
	}
}

// maker makes random digraphs.
type maker struct{ *rand.Rand }

func newMaker(seed uint64) maker {
	return maker{rand.New(rand.NewPCG(seed, 15))}
}

// digraph returns a valid digraph of up to n vertices and m arcs, of which some
// are parallel to others. Without cycles, all arcs lead forward in some order.
func (k maker) digraph(n, m int, isAcyclic bool) api.Digraph {
	g := api.Digraph{N: k.IntN(n + 1)}
	if g.N == 0 || isAcyclic && g.N == 1 {
		return g
	}
	place := k.Perm(g.N)
	for range k.IntN(m + 1) {
		a := api.Arc{From: k.IntN(g.N), To: k.IntN(g.N)}
		if e := len(g.Arcs); e > 0 && k.IntN(8) == 0 {
			a = g.Arcs[k.IntN(e)]
		}
		if isAcyclic && place[a.From] > place[a.To] {
			a = api.Arc{From: a.To, To: a.From}
		}
		if !isAcyclic || a.From != a.To {
			g.Arcs = append(g.Arcs, a)
		}
	}
	return g
}

// cycles returns a valid digraph of up to n vertices in several cycles, with few
// arcs between them, so that there are strong components of many sizes.
func (k maker) cycles(n int) api.Digraph {
	g := api.Digraph{N: k.IntN(n + 1)}
	list := k.Perm(g.N)
	for len(list) > 0 {
		size := 1 + k.IntN(min(len(list), 8))
		for i := range size {
			if size > 1 && k.IntN(12) != 0 {
				g.Arcs = append(g.Arcs, api.Arc{From: list[i], To: list[(i+1)%size]})
			}
		}
		list = list[size:]
	}
	if g.N > 0 {
		for range k.IntN(g.N + 1) {
			g.Arcs = append(g.Arcs, api.Arc{From: k.IntN(g.N), To: k.IntN(g.N)})
		}
	}
	k.Shuffle(len(g.Arcs), func(i, j int) { g.Arcs[i], g.Arcs[j] = g.Arcs[j], g.Arcs[i] })
	return g
}

// some returns one of the digraphs above, small or large.
func (k maker) some() api.Digraph {
	n, m := 9, 14
	if k.IntN(4) == 0 {
		n, m = maxN, maxM
	}
	switch k.IntN(3) {
	case 0:
		return k.cycles(n)
	case 1:
		return k.digraph(n, m, false)
	}
	return k.digraph(n, m, true)
}

// spoil changes one number of g to one that may be out of range.
func (k maker) spoil(g *api.Digraph) {
	n := k.IntN(70) - 3
	switch m := len(g.Arcs); {
	case m == 0 || k.IntN(3) == 0:
		g.N = n
	case k.IntN(2) == 0:
		g.Arcs[k.IntN(m)].From = n
	default:
		g.Arcs[k.IntN(m)].To = n
	}
}

// P15.1 to P15.4: random digraphs, also with changes.
func TestRandomDigraphs(t *testing.T) {
	k := newMaker(1)
	valid, acyclic := 0, 0
	for i := range 3000 {
		g := k.some()
		if i%5 == 0 {
			k.spoil(&g)
		}
		checkDigraph(t, g)
		if digraph.Valid(g) {
			valid++
			if !isCyclic(g) {
				acyclic++
			}
		}
	}
	if valid < 2500 || valid > 2900 || acyclic < 900 || acyclic > 1800 {
		t.Errorf("%d of 3000 digraphs are valid, %d without cycles", valid, acyclic)
	}
}

// P15.5
func TestConsequences(t *testing.T) {
	k := newMaker(2)
	for range 2000 {
		g := k.some()
		count, isLarge := make([]int, g.N), false
		for _, component := range topo.Strong(g) {
			for _, v := range component {
				count[v]++
			}
			isLarge = isLarge || len(component) > 1
		}
		if slices.ContainsFunc(count, func(n int) bool { return n != 1 }) {
			t.Errorf("%v: the vertices are in %v components", g, count)
		}
		hasLoop := slices.ContainsFunc(g.Arcs, func(a api.Arc) bool { return a.From == a.To })
		order, ok := topo.Order(g)
		if ok == (isLarge || hasLoop) || ok && !isForward(g, order) {
			t.Errorf("Order(%v) = %v, %t", g, order, ok)
		}
		longest, isAlso := topo.Longest(g)
		if isAlso != ok {
			t.Errorf("Longest(%v) = %v, %t", g, longest, isAlso)
		}
		if ok {
			checkIncrease(t, g, longest)
		}
	}
}

// checkIncrease checks that the numbers are 0 exactly at the vertices without
// incoming arcs, and increase along every arc.
func checkIncrease(t *testing.T, g api.Digraph, numbers []int) {
	t.Helper()
	incoming := make([]int, g.N)
	for _, a := range g.Arcs {
		incoming[a.To]++
		if numbers[a.From] >= numbers[a.To] {
			t.Errorf("Longest(%v) = %v: not from %d to %d", g, numbers, a.From, a.To)
		}
	}
	for v, n := range numbers {
		if (n == 0) != (incoming[v] == 0) {
			t.Errorf("Longest(%v) = %v at %d", g, numbers, v)
		}
	}
}

// 0.4, 0.8: arguments stay as they are, and what lies behind the end of a list does
// not count.
func TestArguments(t *testing.T) {
	k := newMaker(3)
	for i := range 300 {
		plain := k.some()
		if i%6 == 0 {
			k.spoil(&plain)
		}
		spare := slices.Repeat(arcs(0, 0, 0, -7), 200)
		all := slices.Concat(plain.Arcs, spare)
		g := api.Digraph{N: plain.N, Arcs: all[:len(plain.Arcs)]}
		checkDigraph(t, g)
		if !digraph.Same(g, plain) {
			t.Errorf("%v has changed to %v", plain, g)
		}
		if !slices.Equal(all[len(plain.Arcs):], spare) {
			t.Errorf("%v: spare arcs have changed", plain)
		}
	}
}

// scribble overwrites a list, and what lies behind its end.
func scribble(l []int) {
	for i := range l[:cap(l)] {
		l[:cap(l)][i] = -9
	}
}

// 0.4, 0.9: results are new memory, equal from call to call, and share none with
// one another.
func TestNewMemory(t *testing.T) {
	for _, g := range []api.Digraph{dense(mixed()), around(mixed()), newMaker(4).cycles(maxN), {N: 4, Arcs: arcs(3, 1, 1, 0)}, {N: 3, Arcs: arcs(0, 2, 2, 0)}, {N: 1}} {
		before := api.Digraph{N: g.N, Arcs: slices.Clone(g.Arcs)}
		for range 2 {
			order, _ := topo.Order(g)
			longest, _ := topo.Longest(g)
			scribble(order)
			scribble(longest)
			for v := range g.N {
				scribble(topo.Reach(g, v))
			}
			strong, want := topo.Strong(g), wantedStrong(g)
			for i, component := range strong {
				if !slices.Equal(component, want[i]) {
					t.Errorf("Strong(%v) = %v at %d", g, component, i)
				}
				scribble(component)
			}
			clear(strong[:cap(strong)])
		}
		if !digraph.Same(g, before) {
			t.Errorf("%v has changed from %v", g, before)
		}
		checkDigraph(t, g)
	}
}

// 0.1: lists far beyond the limits.
func TestLongArguments(t *testing.T) {
	long := api.Digraph{N: 2, Arcs: slices.Repeat(arcs(0, 1), 1<<20)}
	checkNothing(t, long)
	long.N = math.MaxInt
	checkNothing(t, long)
}
