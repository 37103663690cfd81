package digraph_test

import (
	"math"
	"math/rand/v2"
	"reflect"
	"slices"
	"testing"

	"layout/api"
	"layout/digraph"
)

const (
	maxN = 64
	maxM = 256
)

// arcs returns the arcs with these ends, in pairs.
func arcs(ends ...int) []api.Arc {
	list := []api.Arc{}
	for i := 0; i+1 < len(ends); i += 2 {
		list = append(list, api.Arc{From: ends[i], To: ends[i+1]})
	}
	return list
}

// sample returns the digraph of the chapter's example.
func sample() api.Digraph {
	return api.Digraph{N: 3, Arcs: arcs(0, 1, 1, 0, 2, 2, 1, 2)}
}

// large returns a digraph with as many vertices and arcs as there may be.
func large() api.Digraph {
	g := api.Digraph{N: maxN}
	for e := range maxM {
		g.Arcs = append(g.Arcs, api.Arc{From: e % maxN, To: (e*7 + e/maxN) % maxN})
	}
	return g
}

// copied returns a digraph that is equal to g, shares no memory with it, and has
// no nil slice.
func copied(g api.Digraph) api.Digraph {
	return api.Digraph{N: g.N, Arcs: append([]api.Arc{}, g.Arcs...)}
}

// same reports whether a and b are equal, by reflection.
func same(a, b api.Digraph) bool {
	return reflect.DeepEqual(copied(a), copied(b))
}

// isZero reports whether g is the zero digraph.
func isZero(g api.Digraph) bool {
	return g.N == 0 && len(g.Arcs) == 0
}

// upTo returns the numbers from 0 to n - 1.
func upTo(n int) []int {
	list := []int{}
	for i := range n {
		list = append(list, i)
	}
	return list
}

// far returns numbers that are far out of range.
func far() []int {
	return []int{math.MinInt, math.MinInt + 1, math.MinInt32, -1 << 32, -1 << 16, -257, -256, -65, -64, 256, 257, 1 << 16, 1 << 32, 1<<32 + 1, math.MaxInt32, math.MaxInt - 1, math.MaxInt}
}

// wantedValid returns what the chapter says of Valid.
func wantedValid(g api.Digraph) bool {
	isEnd := map[int]bool{}
	if g.N <= maxN {
		for v := range max(g.N, 0) {
			isEnd[v] = true
		}
	}
	ends := 0
	for _, a := range g.Arcs {
		for _, v := range []int{a.From, a.To} {
			if isEnd[v] {
				ends++
			}
		}
	}
	return g.N >= 0 && g.N <= maxN && len(g.Arcs) <= maxM && ends == 2*len(g.Arcs)
}

// joins returns for each pair of vertices of a valid digraph the number of arcs
// from the one to the other.
func joins(g api.Digraph) [][]int {
	table := [][]int{}
	for range g.N {
		table = append(table, make([]int, g.N))
	}
	for _, a := range g.Arcs {
		table[a.From][a.To]++
	}
	return table
}

// wantedDegree returns what the chapter says of Degree for a vertex of a valid
// digraph.
func wantedDegree(g api.Digraph, v int) int {
	table, degree := joins(g), 0
	for u := range g.N {
		degree += table[u][v] + table[v][u]
	}
	return degree
}

// wantedNeighbors returns what the chapter says of Neighbors for a vertex of a
// valid digraph.
func wantedNeighbors(g api.Digraph, v int) []int {
	table, list := joins(g), []int{}
	for u := range g.N {
		if u != v && table[u][v]+table[v][u] > 0 {
			list = append(list, u)
		}
	}
	return list
}

// isParallel reports whether two arcs join the same two vertices.
func isParallel(a, b api.Arc) bool {
	return min(a.From, a.To) == min(b.From, b.To) && max(a.From, a.To) == max(b.From, b.To)
}

// wantedSimple returns what the chapter says of Simple for a valid digraph.
func wantedSimple(g api.Digraph) (api.Digraph, []int) {
	left := []int{}
	for e, a := range g.Arcs {
		isOut := a.From == a.To
		for _, b := range g.Arcs[:e] {
			isOut = isOut || isParallel(a, b)
		}
		if !isOut {
			left = append(left, e)
		}
	}
	s, indices := api.Digraph{N: g.N}, []int{}
	for _, e := range left {
		s.Arcs = append(s.Arcs, g.Arcs[e])
	}
	for e := range g.Arcs {
		indices = append(indices, slices.Index(left, e))
	}
	return s, indices
}

// wantedSelection returns the error of the first of the indices, of a list of n,
// that has one.
func wantedSelection(selected []int, n int) api.Errno {
	found := map[int]int{}
	for _, x := range selected {
		if !slices.Contains(upTo(n), x) {
			return api.ErrRange
		}
		found[x]++
		if found[x] == 2 {
			return api.ErrDup
		}
	}
	return api.OK
}

// wantedFlip returns what the chapter says of Flip.
func wantedFlip(g api.Digraph, set []int) (api.Digraph, api.Errno) {
	if !wantedValid(g) {
		return api.Digraph{}, api.ErrArg
	}
	if err := wantedSelection(set, len(g.Arcs)); err != api.OK {
		return api.Digraph{}, err
	}
	f := api.Digraph{N: g.N}
	for e, a := range g.Arcs {
		if slices.Contains(set, e) {
			f.Arcs = append(f.Arcs, api.Arc{From: a.To, To: a.From})
		} else {
			f.Arcs = append(f.Arcs, a)
		}
	}
	return f, api.OK
}

// wantedInduced returns what the chapter says of Induced.
func wantedInduced(g api.Digraph, keep []int) (api.Digraph, []int, api.Errno) {
	if !wantedValid(g) {
		return api.Digraph{}, nil, api.ErrArg
	}
	if err := wantedSelection(keep, g.N); err != api.OK {
		return api.Digraph{}, nil, err
	}
	place := map[int]int{}
	for i, v := range keep {
		place[v] = i
	}
	h, indices := api.Digraph{N: len(keep)}, []int{}
	for e, a := range g.Arcs {
		from, isFromKept := place[a.From]
		to, isToKept := place[a.To]
		if isFromKept && isToKept {
			h.Arcs, indices = append(h.Arcs, api.Arc{From: from, To: to}), append(indices, e)
		}
	}
	return h, indices, api.OK
}

// checkVertex checks Degree and Neighbors of v, which may be any number.
func checkVertex(t *testing.T, g api.Digraph, v int) {
	t.Helper()
	degree, neighbors := 0, []int{}
	if wantedValid(g) && slices.Contains(upTo(g.N), v) {
		degree, neighbors = wantedDegree(g, v), wantedNeighbors(g, v)
	}
	if got := digraph.Degree(g, v); got != degree {
		t.Errorf("Degree(%v, %d) = %d, want %d", g, v, got, degree)
	}
	if got := digraph.Neighbors(g, v); !slices.Equal(got, neighbors) {
		t.Errorf("Neighbors(%v, %d) = %v, want %v", g, v, got, neighbors)
	}
}

// checkSimple checks Simple of g.
func checkSimple(t *testing.T, g api.Digraph) {
	t.Helper()
	s, indices := api.Digraph{}, []int{}
	if wantedValid(g) {
		s, indices = wantedSimple(g)
	}
	if got, at := digraph.Simple(g); !same(got, s) || !slices.Equal(at, indices) {
		t.Errorf("Simple(%v) = %v, %v, want %v, %v", g, got, at, s, indices)
	}
}

// checkFlip checks Flip of g and the set, which may be any list.
func checkFlip(t *testing.T, g api.Digraph, set []int) {
	t.Helper()
	want, err := wantedFlip(g, set)
	if f, got := digraph.Flip(g, set); got != err || !same(f, want) {
		t.Errorf("Flip(%v, %v) = %v, %d, want %v, %d", g, set, f, got, want, err)
	}
}

// checkInduced checks Induced of g and keep, which may be any list.
func checkInduced(t *testing.T, g api.Digraph, keep []int) {
	t.Helper()
	want, indices, err := wantedInduced(g, keep)
	if h, at, got := digraph.Induced(g, keep); got != err || !same(h, want) || !slices.Equal(at, indices) {
		t.Errorf("Induced(%v, %v) = %v, %v, %d, want %v, %v, %d", g, keep, h, at, got, want, indices, err)
	}
}

// checkDigraph checks what the functions without lists return for g.
func checkDigraph(t *testing.T, g api.Digraph) {
	t.Helper()
	if got, want := digraph.Valid(g), wantedValid(g); got != want {
		t.Fatalf("Valid(%v) = %t, want %t", g, got, want)
	}
	for v := -2; v <= min(max(g.N, 0), maxN)+2; v++ {
		checkVertex(t, g, v)
	}
	checkSimple(t, g)
}

// lists returns all lists of n of the values.
func lists[T any](n int, values []T) [][]T {
	if n == 0 {
		return [][]T{{}}
	}
	all := [][]T{}
	for _, l := range lists(n-1, values) {
		for _, x := range values {
			all = append(all, append(slices.Clip(l), x))
		}
	}
	return all
}

// listsUpTo returns all lists of at most n of the values.
func listsUpTo[T any](n int, values []T) [][]T {
	all := [][]T{}
	for i := range n + 1 {
		all = append(all, lists(i, values)...)
	}
	return all
}

// arcsBetween returns all arcs whose ends are from least to most.
func arcsBetween(least, most int) []api.Arc {
	list := []api.Arc{}
	for from := least; from <= most; from++ {
		for to := least; to <= most; to++ {
			list = append(list, api.Arc{From: from, To: to})
		}
	}
	return list
}

// The chapter's examples.
func TestExamples(t *testing.T) {
	g := sample()
	if d := digraph.Degree(g, 2); d != 3 {
		t.Errorf("Degree = %d", d)
	}
	if l := digraph.Neighbors(g, 1); !slices.Equal(l, []int{0, 2}) {
		t.Errorf("Neighbors = %v", l)
	}
	if s, at := digraph.Simple(g); !same(s, api.Digraph{N: 3, Arcs: arcs(0, 1, 1, 2)}) || !slices.Equal(at, []int{0, -1, -1, 1}) {
		t.Errorf("Simple = %v, %v", s, at)
	}
	if h, at, err := digraph.Induced(g, []int{2, 1}); err != api.OK || !same(h, api.Digraph{N: 2, Arcs: arcs(0, 0, 1, 0)}) || !slices.Equal(at, []int{2, 3}) {
		t.Errorf("Induced = %v, %v, %d", h, at, err)
	}
}

// P14.1: digraphs at and beyond the limits.
func TestValid(t *testing.T) {
	for i, c := range []struct {
		g    api.Digraph
		want bool
	}{
		{api.Digraph{}, true},
		{api.Digraph{Arcs: arcs()}, true},
		{api.Digraph{N: 1}, true},
		{api.Digraph{N: 1, Arcs: arcs(0, 0)}, true},
		{api.Digraph{N: 1, Arcs: slices.Repeat(arcs(0, 0), maxM)}, true},
		{api.Digraph{N: 1, Arcs: slices.Repeat(arcs(0, 0), maxM+1)}, false},
		{api.Digraph{N: 2, Arcs: arcs(0, 1, 1, 0, 0, 1, 1, 1)}, true},
		{api.Digraph{N: maxN}, true},
		{api.Digraph{N: maxN, Arcs: arcs(maxN-1, 0, 0, maxN-1, maxN-1, maxN-1)}, true},
		{api.Digraph{N: maxN, Arcs: arcs(maxN, 0)}, false},
		{api.Digraph{N: maxN, Arcs: arcs(0, maxN)}, false},
		{api.Digraph{N: maxN + 1}, false},
		{api.Digraph{N: maxN + 1, Arcs: arcs(0, maxN)}, false},
		{api.Digraph{N: -1}, false},
		{api.Digraph{N: -1, Arcs: arcs(-1, -1)}, false},
		{api.Digraph{Arcs: arcs(0, 0)}, false},
		{api.Digraph{N: 1, Arcs: arcs(0, 1)}, false},
		{api.Digraph{N: 1, Arcs: arcs(1, 0)}, false},
		{api.Digraph{N: 1, Arcs: arcs(-1, 0)}, false},
		{api.Digraph{N: 1, Arcs: arcs(0, -1)}, false},
		{large(), true},
		{sample(), true},
	} {
		if got := digraph.Valid(c.g); got != c.want {
			t.Errorf("%d: Valid(%v) = %t", i, c.g, got)
		}
		checkDigraph(t, c.g)
	}
	for n := -70; n <= 70; n++ {
		if got := digraph.Valid(api.Digraph{N: n}); got != (n >= 0 && n <= maxN) {
			t.Errorf("%d vertices: %t", n, got)
		}
	}
	for m := range 300 {
		if got := digraph.Valid(api.Digraph{N: 2, Arcs: slices.Repeat(arcs(0, 1), m)}); got != (m <= maxM) {
			t.Errorf("%d arcs: %t", m, got)
		}
	}
	for _, n := range far() {
		checkDigraph(t, api.Digraph{N: n})
		checkDigraph(t, api.Digraph{N: n, Arcs: arcs(0, 1)})
		checkDigraph(t, api.Digraph{N: n, Arcs: arcs(0, n, n, 0, n-1, n-1)})
	}
}

// P14.1: an end that is not a vertex, in each place.
func TestOneEndOutOfRange(t *testing.T) {
	for _, g := range []api.Digraph{sample(), large()} {
		for _, v := range append(far(), -2, -1, g.N, g.N+1) {
			for e := range g.Arcs {
				from, to := copied(g), copied(g)
				from.Arcs[e].From, to.Arcs[e].To = v, v
				if digraph.Valid(from) || digraph.Valid(to) {
					t.Errorf("%d is an end of the arc %d of %v", v, e, g)
				}
			}
		}
	}
}

// P14.1: equal digraphs, valid or not, with nil or empty lists, and digraphs that
// differ in one number, one arc or the order of two.
func TestSame(t *testing.T) {
	equal := []api.Digraph{{}, {N: 5}, {N: -1}, {N: math.MinInt, Arcs: arcs(math.MaxInt, -7)}, {N: 1, Arcs: arcs(5, 5)}, sample(), large(), {N: 9, Arcs: slices.Repeat(arcs(1, 2), 1000)}}
	for _, g := range equal {
		if h := copied(g); !digraph.Same(g, h) || !digraph.Same(h, g) || !digraph.Same(g, g) {
			t.Errorf("%v is not the same", g)
		}
	}
	for i, g := range equal {
		for j, h := range equal {
			if i != j && digraph.Same(g, h) {
				t.Errorf("%v and %v are the same", g, h)
			}
		}
	}
	differ := func(a, b api.Digraph) {
		if digraph.Same(a, b) || digraph.Same(b, a) {
			t.Errorf("%v and %v are the same", a, b)
		}
	}
	for _, g := range equal {
		for _, d := range []int{-1, 1, 1 << 32} {
			differ(g, api.Digraph{N: g.N + d, Arcs: g.Arcs})
			for e := range min(len(g.Arcs), 100) {
				from, to := copied(g), copied(g)
				from.Arcs[e].From += d
				to.Arcs[e].To += d
				differ(g, from)
				differ(g, to)
			}
		}
		differ(g, api.Digraph{N: g.N, Arcs: append(copied(g).Arcs, api.Arc{})})
		if n := len(g.Arcs); n > 0 {
			differ(g, api.Digraph{N: g.N, Arcs: g.Arcs[1:]})
			differ(g, api.Digraph{N: g.N, Arcs: g.Arcs[:n-1]})
			differ(g, api.Digraph{N: g.N})
		}
	}
	differ(sample(), api.Digraph{N: 3, Arcs: arcs(1, 0, 0, 1, 2, 2, 1, 2)})
	differ(sample(), api.Digraph{N: 3, Arcs: arcs(0, 1, 1, 0, 1, 2, 2, 2)})
	differ(sample(), api.Digraph{N: 3, Arcs: arcs(0, 1, 1, 0, 2, 2, 2, 1)})
}

// P14.1: Same and equality by reflection agree for all pairs of small digraphs,
// valid or not.
func TestSameOfAll(t *testing.T) {
	all := []api.Digraph{}
	for n := -1; n <= 1; n++ {
		for _, l := range listsUpTo(2, arcsBetween(0, 1)) {
			all = append(all, api.Digraph{N: n, Arcs: l})
		}
	}
	for _, a := range all {
		for _, b := range all {
			if got, want := digraph.Same(a, b), same(a, b); got != want {
				t.Errorf("Same(%v, %v) = %t", a, b, got)
			}
		}
	}
}

// P14.2
func TestDegreeAndNeighbors(t *testing.T) {
	for _, c := range []struct {
		g         api.Digraph
		v, degree int
		neighbors []int
	}{
		{sample(), 0, 2, []int{1}},
		{sample(), 1, 3, []int{0, 2}},
		{sample(), 2, 3, []int{1}},
		{sample(), 3, 0, nil},
		{sample(), -1, 0, nil},
		{api.Digraph{N: 1}, 0, 0, nil},
		{api.Digraph{N: 1, Arcs: arcs(0, 0)}, 0, 2, nil},
		{api.Digraph{N: 2, Arcs: arcs(1, 1, 1, 1)}, 1, 4, nil},
		{api.Digraph{N: 2, Arcs: arcs(1, 1, 1, 1)}, 0, 0, nil},
		{api.Digraph{N: 5, Arcs: arcs(2, 4, 3, 2, 2, 0, 2, 3, 1, 2)}, 2, 5, []int{0, 1, 3, 4}},
		{api.Digraph{N: 2, Arcs: slices.Repeat(arcs(0, 1, 1, 0), 128)}, 0, 256, []int{1}},
		{api.Digraph{N: maxN, Arcs: arcs(63, 63, 63, 0, 62, 63)}, 63, 4, []int{0, 62}},
		{api.Digraph{N: 1, Arcs: slices.Repeat(arcs(0, 0), maxM)}, 0, 2 * maxM, nil},
		{api.Digraph{N: 2, Arcs: arcs(0, 1, 0, 2)}, 0, 0, nil},
		{api.Digraph{N: 2, Arcs: arcs(0, 1, 0, 2)}, 2, 0, nil},
		{api.Digraph{N: -1, Arcs: arcs(-1, -2)}, -1, 0, nil},
		{api.Digraph{N: maxN + 1, Arcs: arcs(0, 1)}, 0, 0, nil},
		{api.Digraph{N: 2, Arcs: slices.Repeat(arcs(0, 1), maxM+1)}, 1, 0, nil},
	} {
		if got := digraph.Degree(c.g, c.v); got != c.degree {
			t.Errorf("Degree(%v, %d) = %d, want %d", c.g, c.v, got, c.degree)
		}
		if got := digraph.Neighbors(c.g, c.v); !slices.Equal(got, c.neighbors) {
			t.Errorf("Neighbors(%v, %d) = %v, want %v", c.g, c.v, got, c.neighbors)
		}
	}
	for _, v := range far() {
		for _, g := range []api.Digraph{{}, sample(), large(), {N: v}, {N: 1, Arcs: arcs(v, v, v, 0, 0, v)}} {
			checkVertex(t, g, v)
		}
	}
}

// P14.3
func TestFlip(t *testing.T) {
	g := sample()
	for _, c := range []struct {
		set  []int
		want []api.Arc
		err  api.Errno
	}{
		{nil, g.Arcs, api.OK},
		{[]int{}, g.Arcs, api.OK},
		{[]int{0}, arcs(1, 0, 1, 0, 2, 2, 1, 2), api.OK},
		{[]int{3}, arcs(0, 1, 1, 0, 2, 2, 2, 1), api.OK},
		{[]int{2}, g.Arcs, api.OK},
		{[]int{3, 0}, arcs(1, 0, 1, 0, 2, 2, 2, 1), api.OK},
		{[]int{2, 0, 3, 1}, arcs(1, 0, 0, 1, 2, 2, 2, 1), api.OK},
		{[]int{4}, nil, api.ErrRange},
		{[]int{-1}, nil, api.ErrRange},
		{[]int{0, 4, 0}, nil, api.ErrRange},
		{[]int{1, 2, 1, -1}, nil, api.ErrDup},
		{[]int{0, 1, 2, 3, 0}, nil, api.ErrDup},
		{[]int{3, 3}, nil, api.ErrDup},
		{[]int{4, 4}, nil, api.ErrRange},
		{[]int{3, 3, 4}, nil, api.ErrDup},
	} {
		f, err := digraph.Flip(g, c.set)
		want := api.Digraph{N: 3, Arcs: c.want}
		if c.err != api.OK {
			want.N = 0
		}
		if err != c.err || !same(f, want) {
			t.Errorf("Flip(%v) = %v, %d, want %v, %d", c.set, f, err, want, c.err)
		}
	}
	for _, e := range far() {
		checkFlip(t, g, []int{e})
		checkFlip(t, g, []int{0, e, 0})
		checkFlip(t, g, []int{0, 0, e})
		checkFlip(t, api.Digraph{}, []int{e})
	}
	for e := range maxM + 2 {
		checkFlip(t, large(), []int{e})
		checkFlip(t, large(), []int{255 - e, e})
	}
	all := upTo(maxM)
	checkFlip(t, large(), all)
	checkFlip(t, large(), append(all, maxM))
	checkFlip(t, large(), append(all, 255))
	checkFlip(t, api.Digraph{N: maxN}, []int{0})
}

// P14.4
func TestSimple(t *testing.T) {
	for _, c := range []struct {
		g       api.Digraph
		want    []api.Arc
		indices []int
	}{
		{api.Digraph{}, nil, nil},
		{api.Digraph{N: 7}, nil, nil},
		{sample(), arcs(0, 1, 1, 2), []int{0, -1, -1, 1}},
		{api.Digraph{N: 1, Arcs: arcs(0, 0, 0, 0)}, nil, []int{-1, -1}},
		{api.Digraph{N: 2, Arcs: arcs(1, 0, 0, 1, 1, 0)}, arcs(1, 0), []int{0, -1, -1}},
		{api.Digraph{N: 2, Arcs: arcs(0, 0, 1, 1, 1, 0)}, arcs(1, 0), []int{-1, -1, 0}},
		{api.Digraph{N: 3, Arcs: arcs(0, 1, 0, 2, 1, 2)}, arcs(0, 1, 0, 2, 1, 2), []int{0, 1, 2}},
		{api.Digraph{N: 3, Arcs: arcs(2, 0, 1, 1, 0, 1, 0, 2, 2, 1, 1, 0, 1, 2)}, arcs(2, 0, 0, 1, 2, 1), []int{0, -1, 1, -1, 2, -1, -1}},
		{api.Digraph{N: maxN, Arcs: arcs(63, 63, 63, 0, 0, 63)}, arcs(63, 0), []int{-1, 0, -1}},
	} {
		if s, at := digraph.Simple(c.g); !same(s, api.Digraph{N: c.g.N, Arcs: c.want}) || !slices.Equal(at, c.indices) {
			t.Errorf("Simple(%v) = %v, %v, want %v, %v", c.g, s, at, c.want, c.indices)
		}
	}
	for _, g := range invalid() {
		if s, at := digraph.Simple(g); !isZero(s) || len(at) != 0 {
			t.Errorf("Simple(%v) = %v, %v", g, s, at)
		}
	}
}

// P14.5
func TestInduced(t *testing.T) {
	g := sample()
	for _, c := range []struct {
		keep    []int
		want    []api.Arc
		indices []int
		err     api.Errno
	}{
		{nil, nil, nil, api.OK},
		{[]int{}, nil, nil, api.OK},
		{[]int{0}, nil, nil, api.OK},
		{[]int{2}, arcs(0, 0), []int{2}, api.OK},
		{[]int{0, 1}, arcs(0, 1, 1, 0), []int{0, 1}, api.OK},
		{[]int{1, 0}, arcs(1, 0, 0, 1), []int{0, 1}, api.OK},
		{[]int{0, 2}, arcs(1, 1), []int{2}, api.OK},
		{[]int{2, 0, 1}, arcs(1, 2, 2, 1, 0, 0, 2, 0), []int{0, 1, 2, 3}, api.OK},
		{[]int{3}, nil, nil, api.ErrRange},
		{[]int{-1}, nil, nil, api.ErrRange},
		{[]int{0, 3, 0}, nil, nil, api.ErrRange},
		{[]int{1, 2, 1, -1}, nil, nil, api.ErrDup},
		{[]int{0, 1, 2, 0}, nil, nil, api.ErrDup},
		{[]int{2, 2}, nil, nil, api.ErrDup},
		{[]int{3, 3}, nil, nil, api.ErrRange},
		{[]int{2, 2, 3}, nil, nil, api.ErrDup},
	} {
		h, at, err := digraph.Induced(g, c.keep)
		want := api.Digraph{Arcs: c.want}
		if c.err == api.OK {
			want.N = len(c.keep)
		}
		if err != c.err || !same(h, want) || !slices.Equal(at, c.indices) {
			t.Errorf("Induced(%v) = %v, %v, %d, want %v, %v, %d", c.keep, h, at, err, want, c.indices, c.err)
		}
	}
	for _, v := range far() {
		checkInduced(t, g, []int{v})
		checkInduced(t, g, []int{0, v, 0})
		checkInduced(t, g, []int{0, 0, v})
		checkInduced(t, api.Digraph{}, []int{v})
	}
	for v := range maxN + 2 {
		checkInduced(t, large(), []int{v})
		checkInduced(t, large(), []int{63 - v, v})
		checkInduced(t, large(), upTo(v))
	}
	checkInduced(t, large(), append(upTo(maxN), 0))
	checkInduced(t, large(), append(upTo(maxN), maxN-1))
	checkInduced(t, api.Digraph{Arcs: nil}, []int{0})
}

// invalid returns digraphs that are not valid, each for one reason only.
func invalid() []api.Digraph {
	list := []api.Digraph{
		{N: -1},
		{N: maxN + 1},
		{N: math.MinInt},
		{N: math.MaxInt},
		{N: maxN + 1, Arcs: arcs(0, 1, 1, 0)},
		{N: 2, Arcs: slices.Repeat(arcs(0, 1), maxM+1)},
		{N: 0, Arcs: arcs(0, 0)},
	}
	for _, v := range append(far(), -1, 3) {
		list = append(list, api.Digraph{N: 3, Arcs: arcs(0, 1, v, 2)}, api.Digraph{N: 3, Arcs: arcs(0, v, 1, 2)})
	}
	return list
}

// P14.2 to P14.5: for digraphs that are not valid, ErrArg comes before the errors
// of lists, and all other results are zero.
func TestInvalidDigraphs(t *testing.T) {
	for _, g := range invalid() {
		if digraph.Valid(g) {
			t.Errorf("%v is valid", g)
		}
		for _, l := range [][]int{nil, {0}, {0, 1}, {1, 1}, {-1}, {257}, {0, 99, 0}, {5, 5}} {
			if f, err := digraph.Flip(g, l); err != api.ErrArg || !isZero(f) {
				t.Errorf("Flip(%v, %v) = %v, %d", g, l, f, err)
			}
			if h, at, err := digraph.Induced(g, l); err != api.ErrArg || !isZero(h) || len(at) != 0 {
				t.Errorf("Induced(%v, %v) = %v, %v, %d", g, l, h, at, err)
			}
		}
		for _, v := range append(far(), -1, 0, 1, 2, 3) {
			if d, l := digraph.Degree(g, v), digraph.Neighbors(g, v); d != 0 || len(l) != 0 {
				t.Errorf("Degree, Neighbors(%v, %d) = %d, %v", g, v, d, l)
			}
		}
	}
}

// P14.1 to P14.5: all digraphs of few vertices and at most two arcs with ends in
// range or next to it, and of at most three arcs with ends in range.
func TestAllDigraphs(t *testing.T) {
	for n := -1; n <= 2; n++ {
		for _, l := range listsUpTo(2, arcsBetween(-1, max(n, 0))) {
			checkDigraph(t, api.Digraph{N: n, Arcs: l})
		}
	}
	for n := range 4 {
		for _, l := range listsUpTo(3, arcsBetween(0, n-1)) {
			checkDigraph(t, api.Digraph{N: n, Arcs: l})
		}
	}
}

// P14.3, P14.5: all lists of up to four indices in range or next to it.
func TestAllSelections(t *testing.T) {
	for _, g := range []api.Digraph{{}, {N: 1}, {N: 2, Arcs: arcs(1, 0)}, {N: 2, Arcs: arcs(0, 2)}, {N: 3, Arcs: arcs(0, 1, 2, 1, 2, 2)}, sample()} {
		for _, l := range listsUpTo(4, []int{-1, 0, 1, 2, 3, 4}) {
			checkFlip(t, g, l)
			checkInduced(t, g, l)
		}
	}
	for _, l := range listsUpTo(3, arcsBetween(0, 1)) {
		g := api.Digraph{N: 2, Arcs: l}
		for _, set := range listsUpTo(3, []int{0, 1, 2}) {
			checkFlip(t, g, set)
			checkInduced(t, g, set)
		}
	}
}

// maker makes random digraphs and lists.
type maker struct{ *rand.Rand }

func newMaker(seed uint64) maker {
	return maker{rand.New(rand.NewPCG(seed, 14))}
}

// digraph returns a valid digraph of up to n vertices and m arcs, of which some
// are loops and some are parallel to others.
func (k maker) digraph(n, m int) api.Digraph {
	g := api.Digraph{N: k.IntN(n + 1)}
	if g.N == 0 {
		return g
	}
	for range k.IntN(m + 1) {
		a := api.Arc{From: k.IntN(g.N), To: k.IntN(g.N)}
		switch e := len(g.Arcs); {
		case e > 0 && k.IntN(6) == 0:
			a = g.Arcs[k.IntN(e)]
		case e > 0 && k.IntN(6) == 0:
			b := g.Arcs[k.IntN(e)]
			a = api.Arc{From: b.To, To: b.From}
		case k.IntN(6) == 0:
			a.To = a.From
		}
		g.Arcs = append(g.Arcs, a)
	}
	return g
}

// spoil changes one number of g to one that may be out of range.
func (k maker) spoil(g *api.Digraph) {
	n := k.IntN(70) - 3
	switch m := len(g.Arcs); {
	case m == 0 || k.IntN(3) == 0:
		g.N = n
	case k.IntN(2) == 0:
		g.Arcs[k.IntN(m)].From = n
	default:
		g.Arcs[k.IntN(m)].To = n
	}
}

// selection returns different indices of a list of n, in any order.
func (k maker) selection(n int) []int {
	return k.Perm(n)[:k.IntN(n+1)]
}

// spoiled returns the selection after one index is put in that may be out of range
// or stand in it already.
func (k maker) spoiled(l []int, n int) []int {
	return slices.Insert(slices.Clone(l), k.IntN(len(l)+1), k.IntN(n+4)-2)
}

// P14.1 to P14.5: random digraphs, also with changes, and lists, also with errors.
func TestRandomDigraphs(t *testing.T) {
	k := newMaker(1)
	invalid := 0
	for i := range 1500 {
		g := k.digraph(10, 20)
		if i%10 == 0 {
			g = k.digraph(maxN, maxM)
		}
		set, keep := k.selection(len(g.Arcs)), k.selection(g.N)
		for round := range 3 {
			checkFlip(t, g, set)
			checkInduced(t, g, keep)
			set, keep = k.spoiled(set, len(g.Arcs)), k.spoiled(keep, g.N)
			if round == 0 && i%4 == 0 {
				k.spoil(&g)
			}
		}
		if i%10 != 0 || i%100 == 0 {
			checkDigraph(t, g)
		}
		if !wantedValid(g) {
			invalid++
		}
	}
	if invalid < 100 || invalid > 350 {
		t.Errorf("%d of 375 changed digraphs are not valid", invalid)
	}
}

// P14.6
func TestBack(t *testing.T) {
	k := newMaker(2)
	for i := range 600 {
		g := k.digraph(12, 24)
		if i%6 == 0 {
			g = k.digraph(maxN, maxM)
		}
		set := k.selection(len(g.Arcs))
		f, err := digraph.Flip(g, set)
		slices.Reverse(set)
		back, again := digraph.Flip(f, set)
		if err != api.OK || again != api.OK || !digraph.Same(back, g) {
			t.Errorf("Flip(%v, %v) = %v, %d, then %v, %d", g, set, f, err, back, again)
		}
		s, _ := digraph.Simple(g)
		if twice, at := digraph.Simple(s); !digraph.Same(twice, s) || !slices.Equal(at, upTo(len(s.Arcs))) {
			t.Errorf("Simple(%v) = %v, then %v, %v", g, s, twice, at)
		}
		if h, at, err := digraph.Induced(g, upTo(g.N)); err != api.OK || !digraph.Same(h, g) || !slices.Equal(at, upTo(len(g.Arcs))) {
			t.Errorf("Induced(%v, all) = %v, %v, %d", g, h, at, err)
		}
	}
}

// P14.7
func TestCounts(t *testing.T) {
	k := newMaker(3)
	for i := range 300 {
		g := k.digraph(12, 24)
		if i%10 == 0 {
			g = k.digraph(maxN, maxM)
		}
		sum, neighbors := 0, [][]int{}
		for v := range g.N {
			sum += digraph.Degree(g, v)
			neighbors = append(neighbors, digraph.Neighbors(g, v))
		}
		if sum != 2*len(g.Arcs) {
			t.Errorf("%v: the degrees add up to %d", g, sum)
		}
		s, _ := digraph.Simple(g)
		for v := range g.N {
			for u := range g.N {
				if slices.Contains(neighbors[u], v) != slices.Contains(neighbors[v], u) {
					t.Errorf("%v: neighbors of %d and %d", g, u, v)
				}
			}
			if l := digraph.Neighbors(s, v); !slices.Equal(l, neighbors[v]) || len(l) != digraph.Degree(s, v) {
				t.Errorf("%v: the neighbors of %d are %v, without loops and parallel arcs %v", g, v, neighbors[v], l)
			}
		}
	}
}

// withSpare returns a list with the same elements, and others behind its end, and
// whether these are still there.
func withSpare[T comparable](l []T, spare T) ([]T, func() bool) {
	all := slices.Concat(l, slices.Repeat([]T{spare}, 300))
	return all[:len(l)], func() bool {
		return !slices.ContainsFunc(all[len(l):], func(x T) bool { return x != spare })
	}
}

// 0.4, 0.8: arguments stay as they are, and what lies behind the end of a list does
// not count.
func TestArguments(t *testing.T) {
	k := newMaker(4)
	for i := range 300 {
		plain := k.digraph(6, 12)
		plainSet, plainKeep := k.selection(len(plain.Arcs)), k.selection(plain.N)
		switch i % 6 {
		case 1:
			k.spoil(&plain)
		case 2:
			plainSet = k.spoiled(plainSet, len(plain.Arcs))
		case 3:
			plainKeep = k.spoiled(plainKeep, plain.N)
		}
		list, areArcsKept := withSpare(plain.Arcs, api.Arc{From: 0, To: -7})
		set, isSetKept := withSpare(plainSet, 0)
		keep, isKeepKept := withSpare(plainKeep, 0)
		g := api.Digraph{N: plain.N, Arcs: list}
		checkDigraph(t, g)
		checkFlip(t, g, set)
		checkInduced(t, g, keep)
		if !digraph.Same(g, plain) || !digraph.Same(plain, g) {
			t.Errorf("%v: spare arcs count", plain)
		}
		if !same(g, plain) || !slices.Equal(set, plainSet) || !slices.Equal(keep, plainKeep) {
			t.Errorf("%v, %v and %v have changed to %v, %v and %v", plain, plainSet, plainKeep, g, set, keep)
		}
		if !areArcsKept() || !isSetKept() || !isKeepKept() {
			t.Errorf("%v, %v, %v: spare elements have changed", plain, plainSet, plainKeep)
		}
	}
}

// scribble overwrites a list, and what lies behind its end.
func scribble[T any](l []T, x T) {
	for i := range l[:cap(l)] {
		l[:cap(l)][i] = x
	}
}

// 0.4, 0.9: results are new memory, equal from call to call, and share none with
// one another.
func TestNewMemory(t *testing.T) {
	for _, g := range []api.Digraph{sample(), large(), {N: 2, Arcs: arcs(0, 1)}, {N: 1, Arcs: arcs(0, 0)}, {N: 1}} {
		before, all, vertices := copied(g), upTo(len(g.Arcs)), upTo(g.N)
		bad := api.Arc{From: -9, To: -9}
		for range 2 {
			for v := range g.N {
				l := digraph.Neighbors(g, v)
				if !slices.Equal(l, wantedNeighbors(g, v)) {
					t.Errorf("Neighbors(%v, %d) = %v", g, v, l)
				}
				scribble(l, -9)
			}
			none, _ := digraph.Flip(g, nil)
			f, _ := digraph.Flip(g, all)
			s, at := digraph.Simple(g)
			h, in, _ := digraph.Induced(g, vertices)
			scribble(none.Arcs, bad)
			scribble(f.Arcs, bad)
			scribble(s.Arcs, bad)
			scribble(h.Arcs, bad)
			if _, want := wantedSimple(before); !slices.Equal(at, want) || !slices.Equal(in, upTo(len(before.Arcs))) {
				t.Errorf("%v: indices %v, %v", before, at, in)
			}
			scribble(at, -9)
			scribble(in, -9)
		}
		if !same(g, before) || !slices.Equal(all, upTo(len(before.Arcs))) || !slices.Equal(vertices, upTo(before.N)) {
			t.Errorf("%v, %v, %v have changed from %v", g, all, vertices, before)
		}
		checkDigraph(t, g)
		checkFlip(t, g, all)
		checkInduced(t, g, vertices)
	}
}

// 0.1: lists far beyond the limits.
func TestLongArguments(t *testing.T) {
	const many = 1 << 20
	long := api.Digraph{N: 1, Arcs: make([]api.Arc, many)}
	list := make([]int, many)
	if digraph.Valid(long) || digraph.Degree(long, 0) != 0 || len(digraph.Neighbors(long, 0)) != 0 {
		t.Error("a digraph of too many arcs counts as valid")
	}
	if s, at := digraph.Simple(long); !isZero(s) || len(at) != 0 {
		t.Error("Simple")
	}
	if other := copied(long); !digraph.Same(long, other) || digraph.Same(long, sample()) {
		t.Error("Same")
	}
	for first, err := range map[int]api.Errno{0: api.ErrDup, -1: api.ErrRange, 1: api.ErrDup} {
		list[0] = first
		if f, got := digraph.Flip(sample(), list); got != err || !isZero(f) {
			t.Errorf("Flip = %v, %d, want %d", f, got, err)
		}
		if h, at, got := digraph.Induced(sample(), list); got != err || !isZero(h) || len(at) != 0 {
			t.Errorf("Induced = %v, %v, %d, want %d", h, at, got, err)
		}
		if _, got := digraph.Flip(long, list); got != api.ErrArg {
			t.Errorf("Flip = %d", got)
		}
		if _, _, got := digraph.Induced(long, list); got != api.ErrArg {
			t.Errorf("Induced = %d", got)
		}
	}
}
