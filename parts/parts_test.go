package parts_test

import (
	"math"
	"math/rand/v2"
	"slices"
	"testing"

	"layout/api"
	"layout/digraph"
	"layout/parts"
)

const (
	maxN = 64
	maxM = 256
)

// arcs returns the arcs with these ends, in pairs.
func arcs(ends ...int) []api.Arc {
	list := []api.Arc{}
	for i := 0; i+1 < len(ends); i += 2 {
		list = append(list, api.Arc{From: ends[i], To: ends[i+1]})
	}
	return list
}

// upTo returns the numbers from 0 to n - 1.
func upTo(n int) []int {
	list := []int{}
	for i := range n {
		list = append(list, i)
	}
	return list
}

// each returns a list of one element for each number from 0 to n - 1.
func each(n int) [][]int {
	lists := [][]int{}
	for i := range n {
		lists = append(lists, []int{i})
	}
	return lists
}

// far returns numbers that are far out of range.
func far() []int {
	return []int{math.MinInt, math.MinInt + 1, math.MinInt32, -1 << 32, -1 << 16, -257, -256, -65, -64, 64, 256, 257, 1 << 16, 1 << 32, 1<<32 + 1, math.MaxInt32, math.MaxInt - 1, math.MaxInt}
}

// isLoop reports whether the arc joins a vertex with itself.
func isLoop(a api.Arc) bool {
	return a.From == a.To
}

// equal reports whether two lists of lists have the same elements.
func equal(a, b [][]int) bool {
	return slices.EqualFunc(a, b, slices.Equal)
}

// leasts returns for each vertex of a valid digraph the least one with which it is
// connected if only those edges are there that have no end at the vertex without,
// and not the number but. None is left out if they are -1.
func leasts(g api.Digraph, without, but int) []int {
	list := upTo(g.N)
	for e, a := range g.Arcs {
		if e == but || a.From == without || a.To == without {
			continue
		}
		if from, to := list[a.From], list[a.To]; from != to {
			for v := range list {
				if list[v] == from || list[v] == to {
					list[v] = min(from, to)
				}
			}
		}
	}
	return list
}

// wantedComponents returns what the chapter says of Components for a valid digraph.
func wantedComponents(g api.Digraph) [][]int {
	least, components := leasts(g, -1, -1), [][]int{}
	for v := range g.N {
		component := []int{}
		for u := range g.N {
			if least[u] == v {
				component = append(component, u)
			}
		}
		if len(component) > 0 {
			components = append(components, component)
		}
	}
	return components
}

// wantedBridges returns what the chapter says of Bridges for a valid digraph.
func wantedBridges(g api.Digraph) []int {
	list := []int{}
	for e, a := range g.Arcs {
		if least := leasts(g, -1, e); least[a.From] != least[a.To] {
			list = append(list, e)
		}
	}
	return list
}

// wantedCuts returns what the chapter says of Cuts for a valid digraph.
func wantedCuts(g api.Digraph) []int {
	list, all := []int{}, leasts(g, -1, -1)
	for v := range g.N {
		left, isCut := leasts(g, v, -1), false
		for u := range g.N {
			for w := range u {
				isCut = isCut || u != v && w != v && all[u] == all[w] && left[u] != left[w]
			}
		}
		if isCut {
			list = append(list, v)
		}
	}
	return list
}

// inseparable reports for each pair of edges of a valid digraph whether they are
// the same one, or neither of them is a loop and each vertex leaves an end of the
// one connected with an end of the other. By Menger's theorem, these are the pairs
// on a cycle that passes no vertex twice.
func inseparable(g api.Digraph) [][]bool {
	table := [][]bool{}
	for range g.Arcs {
		table = append(table, slices.Repeat([]bool{true}, len(g.Arcs)))
	}
	for v := range g.N {
		left := leasts(g, v, -1)
		side := []int{}
		for _, a := range g.Arcs {
			if a.From == v {
				a.From = a.To
			}
			side = append(side, left[a.From])
		}
		for e := range g.Arcs {
			for f := range g.Arcs {
				table[e][f] = table[e][f] && side[e] == side[f]
			}
		}
	}
	for e, a := range g.Arcs {
		for f, b := range g.Arcs {
			table[e][f] = e == f || table[e][f] && !isLoop(a) && !isLoop(b)
		}
	}
	return table
}

// onCycles reports for each pair of edges of a valid digraph whether they are the
// same one, or a walk that passes no vertex twice goes around both.
func onCycles(g api.Digraph) [][]bool {
	table := [][]bool{}
	for e, a := range g.Arcs {
		row := make([]bool, len(g.Arcs))
		row[e] = true
		if !isLoop(a) {
			walk(g, a.From, a.To, 1<<a.To, 1<<e, row)
		}
		table = append(table, row)
	}
	return table
}

// walk goes from v along all edges to vertices not passed before, and marks the
// edges of each walk that comes to the end. Sets are bits of numbers.
func walk(g api.Digraph, end, v int, passed, used uint64, marks []bool) {
	if v == end {
		for e := range marks {
			marks[e] = marks[e] || used>>e&1 == 1
		}
		return
	}
	for e, a := range g.Arcs {
		u := a.To
		switch {
		case used>>e&1 == 1 || a.From != v && a.To != v:
			continue
		case a.To == v:
			u = a.From
		}
		if passed>>u&1 == 0 {
			walk(g, end, u, passed|1<<u, used|1<<e, marks)
		}
	}
}

// classes returns the classes of a relation of which a table tells that it is one
// of equivalence.
func classes(t *testing.T, table [][]bool) [][]int {
	t.Helper()
	lists := [][]int{}
	for e, row := range table {
		class := []int{}
		for f, isIn := range row {
			if isIn {
				class = append(class, f)
			}
			if isIn && !slices.Equal(row, table[f]) {
				t.Errorf("no equivalence: %d and %d", e, f)
			}
		}
		if class[0] == e {
			lists = append(lists, class)
		}
	}
	return lists
}

// check checks that all functions return these lists for g, and what follows from
// them.
func check(t *testing.T, g api.Digraph, components [][]int, bridges, cuts []int, blocks [][]int) {
	t.Helper()
	if l := parts.Components(g); !equal(l, components) {
		t.Errorf("Components(%v) = %v, want %v", g, l, components)
	}
	if l := parts.Bridges(g); !slices.Equal(l, bridges) {
		t.Errorf("Bridges(%v) = %v, want %v", g, l, bridges)
	}
	if l := parts.Cuts(g); !slices.Equal(l, cuts) {
		t.Errorf("Cuts(%v) = %v, want %v", g, l, cuts)
	}
	if l := parts.Blocks(g); !equal(l, blocks) {
		t.Errorf("Blocks(%v) = %v, want %v", g, l, blocks)
	}
	isConnected := len(components) == 1
	if is := parts.Connected(g); is != isConnected {
		t.Errorf("Connected(%v) = %t", g, is)
	}
	if is := parts.Biconnected(g); is != (isConnected && len(cuts) == 0) {
		t.Errorf("Biconnected(%v) = %t", g, is)
	}
}

// checkDigraph checks what all functions return for g.
func checkDigraph(t *testing.T, g api.Digraph) {
	t.Helper()
	if !digraph.Valid(g) {
		check(t, g, nil, nil, nil, nil)
		return
	}
	check(t, g, wantedComponents(g), wantedBridges(g), wantedCuts(g), classes(t, inseparable(g)))
}

// checkCycles checks what all functions return for a digraph of few edges, where
// all cycles are walked.
func checkCycles(t *testing.T, g api.Digraph) {
	t.Helper()
	checkDigraph(t, g)
	if l, want := parts.Blocks(g), classes(t, onCycles(g)); !equal(l, want) {
		t.Errorf("Blocks(%v) = %v, want %v", g, l, want)
	}
}

// The chapter's examples.
func TestExamples(t *testing.T) {
	check(t, api.Digraph{N: 4, Arcs: arcs(0, 1, 1, 2, 2, 0, 2, 3)}, [][]int{{0, 1, 2, 3}}, []int{3}, []int{2}, [][]int{{0, 1, 2}, {3}})
	check(t, api.Digraph{N: 2, Arcs: arcs(0, 1, 0, 1)}, [][]int{{0, 1}}, nil, nil, [][]int{{0, 1}})
	loop := api.Digraph{N: 1, Arcs: arcs(0, 0)}
	check(t, loop, [][]int{{0}}, nil, nil, [][]int{{0}})
	if !parts.Biconnected(loop) || !parts.Biconnected(api.Digraph{N: 1}) {
		t.Error("one vertex is not biconnected")
	}
	check(t, api.Digraph{}, nil, nil, nil, nil)
	if parts.Connected(api.Digraph{}) || parts.Biconnected(api.Digraph{}) {
		t.Error("no vertex is connected")
	}
	check(t, api.Digraph{N: 2}, [][]int{{0}, {1}}, nil, nil, nil)
	if parts.Biconnected(api.Digraph{N: 2}) {
		t.Error("two vertices without edges are biconnected")
	}
}

// P16.1
func TestComponents(t *testing.T) {
	for _, c := range []struct {
		n    int
		arcs []api.Arc
		want [][]int
	}{
		{0, nil, nil},
		{1, nil, [][]int{{0}}},
		{1, arcs(0, 0), [][]int{{0}}},
		{2, nil, [][]int{{0}, {1}}},
		{2, arcs(0, 0, 1, 1), [][]int{{0}, {1}}},
		{2, arcs(0, 1), [][]int{{0, 1}}},
		{2, arcs(1, 0), [][]int{{0, 1}}},
		{2, arcs(1, 0, 1, 0, 0, 1), [][]int{{0, 1}}},
		{3, arcs(2, 0), [][]int{{0, 2}, {1}}},
		{3, arcs(2, 1), [][]int{{0}, {1, 2}}},
		// In neither direction do paths of arcs lead from 0 to 2.
		{3, arcs(0, 1, 2, 1), [][]int{{0, 1, 2}}},
		{3, arcs(1, 0, 1, 2), [][]int{{0, 1, 2}}},
		{4, arcs(3, 0, 2, 1), [][]int{{0, 3}, {1, 2}}},
		{6, arcs(5, 2, 4, 1, 3, 5, 1, 1), [][]int{{0}, {1, 4}, {2, 3, 5}}},
		{6, arcs(5, 4, 4, 3, 3, 2, 2, 1, 1, 0), [][]int{{0, 1, 2, 3, 4, 5}}},
		{7, arcs(0, 6, 6, 3, 1, 5, 5, 2, 2, 1), [][]int{{0, 3, 6}, {1, 2, 5}, {4}}},
	} {
		g := api.Digraph{N: c.n, Arcs: c.arcs}
		if l := parts.Components(g); !equal(l, c.want) {
			t.Errorf("Components(%v) = %v, want %v", g, l, c.want)
		}
		if is := parts.Connected(g); is != (len(c.want) == 1) {
			t.Errorf("Connected(%v) = %t", g, is)
		}
		checkCycles(t, g)
	}
}

// P16.2
func TestBridgesAndCuts(t *testing.T) {
	for _, c := range []struct {
		n             int
		arcs          []api.Arc
		bridges, cuts []int
	}{
		{0, nil, nil, nil},
		{1, nil, nil, nil},
		{1, arcs(0, 0, 0, 0), nil, nil},
		{2, nil, nil, nil},
		{2, arcs(0, 1), []int{0}, nil},
		{2, arcs(1, 0, 0, 0, 1, 1), []int{0}, nil},
		{2, arcs(0, 1, 1, 0), nil, nil},
		{3, arcs(0, 1, 0, 1), nil, nil},
		{3, arcs(0, 1, 2, 2), []int{0}, nil},
		{3, arcs(2, 0, 0, 1), []int{0, 1}, []int{0}},
		{3, arcs(2, 1, 0, 1), []int{0, 1}, []int{1}},
		{3, arcs(0, 1, 1, 2, 2, 0), nil, nil},
		// Paths of parallel edges: a cut vertex, but no bridge.
		{3, arcs(0, 2, 1, 2, 2, 0, 2, 1), nil, []int{2}},
		{3, arcs(0, 2, 1, 2, 2, 0, 2, 2), []int{1}, []int{2}},
		{4, arcs(0, 1, 0, 2, 0, 3), []int{0, 1, 2}, []int{0}},
		{4, arcs(3, 1, 2, 3, 0, 3), []int{0, 1, 2}, []int{3}},
		{4, arcs(0, 1, 1, 2, 2, 3, 3, 0), nil, nil},
		{4, arcs(0, 1, 1, 2, 2, 3, 3, 1), []int{0}, []int{1}},
		// Two triangles with a vertex in common, and two with a bridge between them.
		{5, arcs(4, 0, 0, 1, 1, 4, 4, 2, 2, 3, 3, 4), nil, []int{4}},
		{5, arcs(0, 1, 1, 2, 2, 0, 0, 3, 3, 4, 4, 0), nil, []int{0}},
		{6, arcs(0, 1, 1, 2, 2, 0, 3, 4, 4, 5, 5, 3, 5, 0), []int{6}, []int{0, 5}},
		{6, arcs(5, 0, 0, 4, 4, 1, 1, 3, 3, 2), []int{0, 1, 2, 3, 4}, []int{0, 1, 3, 4}},
		// A cycle with a chord, and edges to its vertices.
		{6, arcs(4, 0, 0, 1, 1, 2, 2, 3, 3, 0, 1, 3, 5, 1), []int{0, 6}, []int{0, 1}},
		// A cut vertex in the second component.
		{5, arcs(0, 1, 2, 4, 4, 3), []int{0, 1, 2}, []int{4}},
	} {
		g := api.Digraph{N: c.n, Arcs: c.arcs}
		if l := parts.Bridges(g); !slices.Equal(l, c.bridges) {
			t.Errorf("Bridges(%v) = %v, want %v", g, l, c.bridges)
		}
		if l := parts.Cuts(g); !slices.Equal(l, c.cuts) {
			t.Errorf("Cuts(%v) = %v, want %v", g, l, c.cuts)
		}
		checkCycles(t, g)
	}
}

// P16.3
func TestBlocks(t *testing.T) {
	for _, c := range []struct {
		n    int
		arcs []api.Arc
		want [][]int
	}{
		{0, nil, nil},
		{3, nil, nil},
		{1, arcs(0, 0), [][]int{{0}}},
		{1, arcs(0, 0, 0, 0, 0, 0), [][]int{{0}, {1}, {2}}},
		{2, arcs(0, 1), [][]int{{0}}},
		{2, arcs(1, 1, 0, 1, 0, 0), [][]int{{0}, {1}, {2}}},
		{2, arcs(0, 1, 1, 1, 0, 1, 0, 0, 1, 0), [][]int{{0, 2, 4}, {1}, {3}}},
		{3, arcs(0, 1, 1, 2, 2, 0), [][]int{{0, 1, 2}}},
		{3, arcs(0, 1, 2, 1, 0, 2), [][]int{{0, 1, 2}}},
		{3, arcs(0, 1, 1, 2, 1, 0, 2, 1), [][]int{{0, 2}, {1, 3}}},
		{3, arcs(1, 2, 0, 1, 2, 1, 1, 1), [][]int{{0, 2}, {1}, {3}}},
		{4, arcs(2, 3, 0, 1), [][]int{{0}, {1}}},
		{4, arcs(0, 1, 0, 2, 0, 3, 1, 2, 1, 3, 2, 3), [][]int{{0, 1, 2, 3, 4, 5}}},
		// Two triangles with a vertex in common, whose edges take turns.
		{5, arcs(0, 3, 0, 1, 3, 4, 1, 2, 4, 0, 2, 0), [][]int{{0, 2, 4}, {1, 3, 5}}},
		// Two triangles with an edge in common.
		{4, arcs(0, 1, 1, 2, 2, 0, 1, 3, 3, 2), [][]int{{0, 1, 2, 3, 4}}},
		// Two triangles with a bridge between them, which comes first.
		{6, arcs(5, 0, 0, 1, 1, 2, 2, 0, 3, 4, 4, 5, 5, 3), [][]int{{0}, {1, 2, 3}, {4, 5, 6}}},
		// A triangle and a square with an edge in common.
		{5, arcs(0, 1, 1, 2, 2, 0, 2, 3, 3, 4, 4, 0), [][]int{{0, 1, 2, 3, 4, 5}}},
	} {
		g := api.Digraph{N: c.n, Arcs: c.arcs}
		if l := parts.Blocks(g); !equal(l, c.want) {
			t.Errorf("Blocks(%v) = %v, want %v", g, l, c.want)
		}
		checkCycles(t, g)
	}
}

// P16.4
func TestBiconnected(t *testing.T) {
	for _, c := range []struct {
		n    int
		arcs []api.Arc
		want bool
	}{
		{0, nil, false},
		{1, nil, true},
		{1, arcs(0, 0, 0, 0), true},
		{2, nil, false},
		{2, arcs(0, 0, 1, 1), false},
		{2, arcs(1, 0), true},
		{2, arcs(0, 1, 0, 0), true},
		{2, arcs(0, 1, 1, 0, 1, 1), true},
		{3, arcs(0, 1), false},
		{3, arcs(0, 1, 0, 1, 2, 2), false},
		{3, arcs(0, 1, 2, 1), false},
		{3, arcs(0, 1, 1, 2, 2, 0), true},
		{3, arcs(0, 1, 2, 1, 0, 2, 2, 2), true},
		{3, arcs(0, 1, 1, 0, 1, 2, 2, 1), false},
		{4, arcs(0, 1, 2, 1, 2, 3, 0, 3), true},
		{4, arcs(0, 1, 2, 1, 2, 0, 0, 3), false},
		{4, arcs(0, 1, 2, 3), false},
		{6, arcs(0, 1, 1, 2, 2, 0, 3, 4, 4, 5, 5, 3), false},
	} {
		g := api.Digraph{N: c.n, Arcs: c.arcs}
		if is := parts.Biconnected(g); is != c.want {
			t.Errorf("Biconnected(%v) = %t", g, is)
		}
		checkCycles(t, g)
	}
}

// along returns the digraph whose arcs lead from each vertex of the list to the
// next one, each of them times over.
func along(list []int, times int) api.Digraph {
	g := api.Digraph{N: len(list)}
	for range times {
		for i := 1; i < len(list); i++ {
			g.Arcs = append(g.Arcs, api.Arc{From: list[i-1], To: list[i]})
		}
	}
	return g
}

// P16.1 to P16.4: digraphs at the limits.
func TestLimits(t *testing.T) {
	mixed := []int{}
	for i := range maxN {
		mixed = append(mixed, (i*27+5)%maxN)
	}
	for _, list := range [][]int{upTo(maxN), mixed} {
		all := [][]int{upTo(maxN)}
		inner := slices.Sorted(slices.Values(list[1 : maxN-1]))
		path := along(list, 1)
		check(t, path, all, upTo(maxN-1), inner, each(maxN-1))
		twice := along(list, 2)
		doubles := [][]int{}
		for e := range maxN - 1 {
			doubles = append(doubles, []int{e, e + maxN - 1})
		}
		check(t, twice, all, nil, inner, doubles)
		around := api.Digraph{N: maxN, Arcs: append(slices.Clone(path.Arcs), api.Arc{From: list[maxN-1], To: list[0]})}
		check(t, around, all, nil, nil, [][]int{upTo(maxN)})
		star := api.Digraph{N: maxN}
		for _, v := range list[1:] {
			star.Arcs = append(star.Arcs, api.Arc{From: v, To: list[0]})
		}
		check(t, star, all, upTo(maxN-1), list[:1], each(maxN-1))
		for _, g := range []api.Digraph{path, along(list, 4), twice, around, star} {
			checkDigraph(t, g)
		}
	}
	check(t, api.Digraph{N: maxN}, each(maxN), nil, nil, nil)
	check(t, api.Digraph{N: 1, Arcs: slices.Repeat(arcs(0, 0), maxM)}, [][]int{{0}}, nil, nil, each(maxM))
	check(t, api.Digraph{N: 2, Arcs: slices.Repeat(arcs(1, 0, 0, 1), maxM/2)}, [][]int{{0, 1}}, nil, nil, [][]int{upTo(maxM)})
	complete := api.Digraph{N: 23, Arcs: pairs(23)}
	check(t, complete, [][]int{upTo(23)}, nil, nil, [][]int{upTo(23 * 22 / 2)})
}

// P16.1 to P16.4: nothing is returned for digraphs that are not valid.
func TestInvalidDigraphs(t *testing.T) {
	list := []api.Digraph{
		{N: -1},
		{N: maxN + 1},
		{N: math.MinInt},
		{N: math.MaxInt},
		{N: -1, Arcs: arcs(0, 0)},
		{N: maxN + 1, Arcs: arcs(0, 1, 1, 0)},
		{N: 1, Arcs: slices.Repeat(arcs(0, 0), maxM+1)},
		{N: 2, Arcs: slices.Repeat(arcs(0, 1), maxM+1)},
		{N: 0, Arcs: arcs(0, 0)},
	}
	for _, v := range append(far(), -1, 3) {
		list = append(list, api.Digraph{N: 3, Arcs: arcs(0, 1, v, 2)}, api.Digraph{N: 3, Arcs: arcs(0, v, 1, 2)}, api.Digraph{N: 3, Arcs: arcs(v, v)})
	}
	for _, g := range list {
		check(t, g, nil, nil, nil, nil)
	}
}

// pairs returns an arc for each pair of different vertices.
func pairs(n int) []api.Arc {
	list := []api.Arc{}
	for to := range n {
		for from := range to {
			list = append(list, api.Arc{From: from, To: to})
		}
	}
	return list
}

// selections returns for each arc of the list all numbers of times, up to most, to
// take it, as all lists of arcs that come from this.
func selections(list []api.Arc, most int) [][]api.Arc {
	all := [][]api.Arc{{}}
	for _, a := range list {
		longer := [][]api.Arc{}
		for times := range most + 1 {
			for _, l := range all {
				longer = append(longer, slices.Concat(l, slices.Repeat([]api.Arc{a}, times)))
			}
		}
		all = longer
	}
	return all
}

// arcsBetween returns all arcs whose ends are from least to most.
func arcsBetween(least, most int) []api.Arc {
	list := []api.Arc{}
	for from := least; from <= most; from++ {
		for to := least; to <= most; to++ {
			list = append(list, api.Arc{From: from, To: to})
		}
	}
	return list
}

// lists returns all lists of at most m of the arcs.
func lists(m int, arcs []api.Arc) [][]api.Arc {
	all := [][]api.Arc{{}}
	for i := 0; i < len(all) && len(all[i]) < m; i++ {
		for _, a := range arcs {
			all = append(all, slices.Concat(all[i], []api.Arc{a}))
		}
	}
	return all
}

// P16.1 to P16.4: all digraphs of few vertices and at most two arcs with ends in
// range or next to it, and of at most four arcs with ends in range.
func TestShortLists(t *testing.T) {
	for n := -1; n < 4; n++ {
		for _, l := range lists(2, arcsBetween(-1, max(n, 0))) {
			checkDigraph(t, api.Digraph{N: n, Arcs: l})
		}
		for _, l := range lists(4, arcsBetween(0, n-1)) {
			if n >= 0 {
				checkCycles(t, api.Digraph{N: n, Arcs: l})
			}
		}
	}
}

// P16.1 to P16.4: all graphs of up to four vertices whose pairs are joined by up to
// two edges, with and without loops, and of five and six vertices without loops
// and parallel edges.
func TestAllGraphs(t *testing.T) {
	for n := range 7 {
		most := 2
		if n > 4 {
			most = 1
		}
		for i, l := range selections(pairs(n), most) {
			g := api.Digraph{N: n, Arcs: l}
			checkCycles(t, g)
			if n > 0 && n < 5 {
				loops := slices.Repeat([]api.Arc{{From: i % n, To: i % n}}, 1+i%2)
				checkCycles(t, api.Digraph{N: n, Arcs: slices.Insert(slices.Clone(l), i%(len(l)+1), loops...)})
			}
		}
	}
}

// maker makes random digraphs.
type maker struct{ *rand.Rand }

func newMaker(seed uint64) maker {
	return maker{rand.New(rand.NewPCG(seed, 16))}
}

// digraph returns a valid digraph of up to n vertices and m arcs, some of them
// loops or parallel to others.
func (k maker) digraph(n, m int) api.Digraph {
	g := api.Digraph{N: k.IntN(n + 1)}
	if g.N == 0 {
		return g
	}
	for range k.IntN(m + 1) {
		a := api.Arc{From: k.IntN(g.N), To: k.IntN(g.N)}
		if e := len(g.Arcs); e > 0 && k.IntN(8) == 0 {
			b := g.Arcs[k.IntN(e)]
			a = api.Arc{From: b.To, To: b.From}
		}
		g.Arcs = append(g.Arcs, a)
	}
	return g
}

// chain returns a valid digraph of up to n vertices in which each block of some
// kind hangs at a vertex of an earlier one, or begins a component.
func (k maker) chain(n int) api.Digraph {
	g := api.Digraph{N: k.IntN(n + 1)}
	for first := 0; first < g.N; {
		end := min(first+1+k.IntN(5), g.N)
		ring := upTo(end)[first:]
		if first > 0 && k.IntN(8) != 0 {
			ring = append(ring, k.IntN(first))
		}
		first = end
		for i := range ring {
			// A ring of two vertices is one edge or two parallel ones.
			if i > 0 || len(ring) > 2 || k.IntN(2) == 0 {
				g.Arcs = append(g.Arcs, api.Arc{From: ring[i], To: ring[(i+1)%len(ring)]})
			}
		}
		if k.IntN(3) == 0 {
			g.Arcs = append(g.Arcs, api.Arc{From: ring[k.IntN(len(ring))], To: ring[k.IntN(len(ring))]})
		}
	}
	return k.mixed(g)
}

// mixed returns g with other numbers of vertices and edges, and some arcs reversed.
func (k maker) mixed(g api.Digraph) api.Digraph {
	name := k.Perm(g.N)
	for e, a := range g.Arcs {
		g.Arcs[e] = api.Arc{From: name[a.From], To: name[a.To]}
		if k.IntN(2) == 0 {
			g.Arcs[e] = api.Arc{From: name[a.To], To: name[a.From]}
		}
	}
	k.Shuffle(len(g.Arcs), func(i, j int) { g.Arcs[i], g.Arcs[j] = g.Arcs[j], g.Arcs[i] })
	return g
}

// some returns one of the digraphs above, small or large.
func (k maker) some() api.Digraph {
	n, m := 9, 14
	if k.IntN(4) == 0 {
		n, m = maxN, maxM
	}
	switch k.IntN(4) {
	case 0:
		return k.digraph(n, m)
	case 1:
		return k.digraph(n, n+n/4)
	}
	return k.chain(n)
}

// spoil changes one number of g to one that may be out of range.
func (k maker) spoil(g *api.Digraph) {
	n := k.IntN(70) - 3
	switch m := len(g.Arcs); {
	case m == 0 || k.IntN(3) == 0:
		g.N = n
	case k.IntN(2) == 0:
		g.Arcs[k.IntN(m)].From = n
	default:
		g.Arcs[k.IntN(m)].To = n
	}
}

// P16.1 to P16.4: random digraphs, also with changes.
func TestRandomDigraphs(t *testing.T) {
	k := newMaker(1)
	valid, connected, biconnected, divided := 0, 0, 0, 0
	for i := range 3000 {
		g := k.some()
		if i%5 == 0 {
			k.spoil(&g)
		}
		checkDigraph(t, g)
		if digraph.Valid(g) {
			valid++
		}
		if parts.Connected(g) {
			connected++
		}
		if parts.Biconnected(g) {
			biconnected++
		}
		if len(parts.Cuts(g)) > 2 && len(parts.Bridges(g)) < len(parts.Blocks(g)) {
			divided++
		}
	}
	if valid < 2500 || valid > 2900 || connected < 600 || connected > 2000 || biconnected < 200 || biconnected > 1000 || divided < 400 {
		t.Errorf("of 3000 digraphs, %d are valid, %d connected, %d biconnected, %d divided", valid, connected, biconnected, divided)
	}
}

// checkEach checks that the lists contain each number below n once.
func checkEach(t *testing.T, g api.Digraph, lists [][]int, n int) {
	t.Helper()
	if l := slices.Sorted(slices.Values(slices.Concat(lists...))); !slices.Equal(l, upTo(n)) {
		t.Errorf("%v: %v do not divide the numbers below %d", g, lists, n)
	}
}

// ends returns the vertices of the edges in the list.
func ends(g api.Digraph, list []int) []int {
	all := []int{}
	for _, e := range list {
		all = append(all, g.Arcs[e].From, g.Arcs[e].To)
	}
	slices.Sort(all)
	return slices.Compact(all)
}

// P16.5, P16.6
func TestConsequences(t *testing.T) {
	k := newMaker(2)
	for range 2000 {
		g := k.some()
		blocks, cuts := parts.Blocks(g), parts.Cuts(g)
		checkEach(t, g, parts.Components(g), g.N)
		checkEach(t, g, blocks, len(g.Arcs))
		for _, e := range parts.Bridges(g) {
			if !slices.ContainsFunc(blocks, func(b []int) bool { return slices.Equal(b, []int{e}) }) {
				t.Errorf("%v: the bridge %d is no block of %v", g, e, blocks)
			}
		}
		for i, b := range blocks {
			for _, c := range blocks[:i] {
				isApart := func(v int) bool { return !slices.Contains(ends(g, c), v) }
				common := slices.DeleteFunc(ends(g, b), isApart)
				hasLoop := isLoop(g.Arcs[b[0]]) || isLoop(g.Arcs[c[0]])
				if len(common) > 1 || len(common) == 1 && !hasLoop && !slices.Contains(cuts, common[0]) {
					t.Errorf("%v: the blocks %v and %v have %v in common, cuts are %v", g, b, c, common, cuts)
				}
			}
		}
	}
}

// checkFlipped checks that the results for g do not depend on the directions of
// the arcs in the set.
func checkFlipped(t *testing.T, g api.Digraph, set []int) {
	t.Helper()
	flipped, err := digraph.Flip(g, set)
	if err != api.OK {
		t.Fatalf("Flip(%v, %v) = %v", g, set, err)
	}
	check(t, flipped, parts.Components(g), parts.Bridges(g), parts.Cuts(g), parts.Blocks(g))
}

// P16.7
func TestDirections(t *testing.T) {
	for _, g := range []api.Digraph{
		{N: 4, Arcs: arcs(0, 1, 1, 2, 2, 0, 2, 3)},
		{N: 3, Arcs: arcs(0, 1, 0, 1, 1, 2, 2, 2)},
		{N: 7, Arcs: arcs(3, 0, 0, 1, 5, 3, 1, 3, 3, 4, 4, 5, 6, 4, 2, 6)},
		{N: 6, Arcs: arcs(0, 1, 1, 2, 2, 0, 3, 4, 4, 5, 5, 3, 2, 3)},
	} {
		for bits := range 1 << len(g.Arcs) {
			set := slices.DeleteFunc(upTo(len(g.Arcs)), func(e int) bool { return bits>>e&1 == 0 })
			checkFlipped(t, g, set)
		}
	}
	k := newMaker(3)
	for range 1000 {
		g := k.some()
		m := len(g.Arcs)
		checkFlipped(t, g, k.Perm(m)[:k.IntN(m+1)])
		checkFlipped(t, g, upTo(m))
	}
}

// 0.4, 0.8: arguments stay as they are, and what lies behind the end of a list does
// not count.
func TestArguments(t *testing.T) {
	k := newMaker(4)
	for i := range 300 {
		plain := k.some()
		if i%6 == 0 {
			k.spoil(&plain)
		}
		spare := slices.Repeat(arcs(0, 1, 0, -7), 200)
		all := slices.Concat(plain.Arcs, spare)
		g := api.Digraph{N: plain.N, Arcs: all[:len(plain.Arcs)]}
		checkDigraph(t, g)
		if !digraph.Same(g, plain) {
			t.Errorf("%v has changed to %v", plain, g)
		}
		if !slices.Equal(all[len(plain.Arcs):], spare) {
			t.Errorf("%v: spare arcs have changed", plain)
		}
	}
}

// scribble overwrites a list, and what lies behind its end.
func scribble(l []int) {
	for i := range l[:cap(l)] {
		l[:cap(l)][i] = -9
	}
}

// checkApart checks that no two of the lists share memory, and overwrites them.
func checkApart(t *testing.T, lists, want [][]int) {
	t.Helper()
	for i, l := range lists {
		if !slices.Equal(l, want[i]) {
			t.Errorf("list %d is %v, want %v", i, l, want[i])
		}
		scribble(l)
	}
	clear(lists[:cap(lists)])
}

// 0.4, 0.9: results are new memory, equal from call to call, and share none with
// one another.
func TestNewMemory(t *testing.T) {
	k := newMaker(5)
	for _, g := range []api.Digraph{along(upTo(maxN), 4), k.chain(maxN), k.chain(maxN), {N: 5, Arcs: arcs(0, 3, 0, 1, 3, 4, 1, 2, 4, 0, 2, 0)}, {N: 4, Arcs: arcs(3, 0, 2, 1)}, {N: 1}} {
		before := api.Digraph{N: g.N, Arcs: slices.Clone(g.Arcs)}
		for range 2 {
			scribble(parts.Bridges(g))
			scribble(parts.Cuts(g))
			checkApart(t, parts.Components(g), wantedComponents(before))
			checkApart(t, parts.Blocks(g), classes(t, inseparable(before)))
		}
		if !digraph.Same(g, before) {
			t.Errorf("%v has changed from %v", g, before)
		}
		checkDigraph(t, g)
	}
}

// 0.1: lists far beyond the limits.
func TestLongArguments(t *testing.T) {
	long := api.Digraph{N: 2, Arcs: slices.Repeat(arcs(0, 1), 1<<20)}
	for _, n := range []int{2, math.MaxInt, -1} {
		long.N = n
		found := len(parts.Components(long)) + len(parts.Blocks(long)) + len(parts.Bridges(long)) + len(parts.Cuts(long))
		if found > 0 || parts.Connected(long) || parts.Biconnected(long) {
			t.Errorf("a digraph of %d vertices and %d arcs is divided", n, len(long.Arcs))
		}
	}
}
