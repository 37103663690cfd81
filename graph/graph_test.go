package graph_test

import (
	"math"
	"math/rand/v2"
	"reflect"
	"regexp"
	"slices"
	"strconv"
	"strings"
	"testing"

	"layout/api"
	"layout/graph"
)

const (
	minSize = 1
	maxSize = 1 << 20
	maxName = 16
	maxText = 32
)

// sample returns a valid graph with all that graphs may have.
func sample() api.Graph {
	return api.Graph{
		Name: "g", Directed: true,
		Nodes: []api.Node{
			{Name: "a", Label: "x y", W: 20000, H: 10000, Cluster: -1},
			{Name: "b", W: 1, H: 2, Cluster: 0, Ports: []api.Port{{Name: "p", Side: api.Top}, {Name: "q", Side: api.Left}}},
			{Name: "e", W: 3, H: 1, Cluster: 1, Ports: []api.Port{{Name: "p", Side: api.Right}}},
			{Name: "f", W: 3, H: 1, Cluster: 3},
		},
		Edges: []api.Edge{
			{From: 0, To: 1, FromPort: -1, ToPort: 1, Weight: 1, Len: 1},
			{From: 1, To: 1, FromPort: 0, ToPort: -1, Label: "~", Weight: 1000, Len: 64},
			{From: 3, To: 2, FromPort: -1, ToPort: 0, Weight: 2, Len: 3},
		},
		Clusters: []api.Cluster{{Name: "c", Parent: -1}, {Name: "d", Parent: 0}, {Name: "h", Parent: -1}, {Name: "i", Parent: 0}},
	}
}

// with returns the sample after the changes.
func with(changes ...func(g *api.Graph)) api.Graph {
	g := sample()
	for _, change := range changes {
		change(&g)
	}
	return g
}

// deepCopy returns a graph that is equal to g and shares no memory with it.
func deepCopy(g api.Graph) api.Graph {
	g.Nodes = append([]api.Node{}, g.Nodes...)
	for i := range g.Nodes {
		g.Nodes[i].Ports = append([]api.Port{}, g.Nodes[i].Ports...)
	}
	g.Edges = append([]api.Edge{}, g.Edges...)
	g.Clusters = append([]api.Cluster{}, g.Clusters...)
	return g
}

// same reports whether a and b are equal, by reflection on copies that have no
// nil slices.
func same(a, b api.Graph) bool {
	return reflect.DeepEqual(deepCopy(a), deepCopy(b))
}

// nodes returns n nodes of different names, in no cluster.
func nodes(n int) []api.Node {
	list := []api.Node{}
	for i := range n {
		list = append(list, api.Node{Name: "n" + strconv.Itoa(i), W: 1, H: 1, Cluster: -1})
	}
	return list
}

// ports returns n ports of different names, on all sides.
func ports(n int) []api.Port {
	list := []api.Port{}
	for i := range n {
		list = append(list, api.Port{Name: "p" + strconv.Itoa(i), Side: i % 4})
	}
	return list
}

// clusters returns clusters of different names with these parents.
func clusters(parents ...int) []api.Cluster {
	list := []api.Cluster{}
	for i, p := range parents {
		list = append(list, api.Cluster{Name: "c" + strconv.Itoa(i), Parent: p})
	}
	return list
}

// edges returns n loops at the first node.
func edges(n int) []api.Edge {
	return slices.Repeat([]api.Edge{{FromPort: -1, ToPort: -1, Weight: 1, Len: 1}}, n)
}

// nested returns a graph with a node in each of the clusters, which have these
// parents, and one in none, the last one.
func nested(parents ...int) api.Graph {
	g := api.Graph{Name: "g", Nodes: nodes(len(parents) + 1), Clusters: clusters(parents...)}
	for i := range parents {
		g.Nodes[i].Cluster = i
	}
	return g
}

var (
	wordForm    = regexp.MustCompile(`\A[a-zA-Z_][a-zA-Z0-9_]*\z`)
	keywordForm = regexp.MustCompile(`\A(?:digraph|graph|node|edge|set|cluster)\z`)
	labelForm   = regexp.MustCompile(`\A[\x20-\x7e]*\z`)
)

func isName(s string) bool {
	return wordForm.MatchString(s) && len(s) <= maxName && !keywordForm.MatchString(s)
}

// findings are the errors of a graph, in the order of the chapter.
type findings []api.Errno

func (f *findings) add(err api.Errno, broken bool) {
	if broken {
		*f = append(*f, err)
	}
}

func (f *findings) addLabel(label string) {
	f.add(api.ErrLimit, len(label) > maxText)
	f.add(api.ErrValue, !labelForm.MatchString(label))
}

func (f *findings) addNode(g api.Graph, v int) {
	n := g.Nodes[v]
	f.add(api.ErrName, !isName(n.Name))
	for _, m := range g.Nodes[:v] {
		f.add(api.ErrDup, m.Name == n.Name)
	}
	f.addLabel(n.Label)
	f.add(api.ErrRange, n.W < minSize || n.W > maxSize || n.H < minSize || n.H > maxSize)
	f.add(api.ErrRange, n.Cluster != -1 && (n.Cluster < 0 || n.Cluster >= len(g.Clusters)))
	f.add(api.ErrLimit, len(n.Ports) > 8)
	for i, p := range n.Ports {
		f.add(api.ErrName, !isName(p.Name))
		for _, q := range n.Ports[:i] {
			f.add(api.ErrDup, q.Name == p.Name)
		}
		f.add(api.ErrValue, p.Side != api.Top && p.Side != api.Right && p.Side != api.Bottom && p.Side != api.Left)
	}
}

func (f *findings) addCluster(g api.Graph, c int) {
	k := g.Clusters[c]
	f.add(api.ErrName, !isName(k.Name))
	for _, d := range g.Clusters[:c] {
		f.add(api.ErrDup, d.Name == k.Name)
	}
	for _, n := range g.Nodes {
		f.add(api.ErrDup, n.Name == k.Name)
	}
	f.add(api.ErrRange, k.Parent < -1 || k.Parent > c-1)
	f.add(api.ErrLimit, wantedDepth(g, c) > 6)
}

func (f *findings) addEdge(g api.Graph, e api.Edge) {
	isEnd := func(v, port int) bool {
		return v >= 0 && v < len(g.Nodes) && (port == -1 || port >= 0 && port < len(g.Nodes[v].Ports))
	}
	f.add(api.ErrRange, !isEnd(e.From, e.FromPort) || !isEnd(e.To, e.ToPort))
	f.addLabel(e.Label)
	f.add(api.ErrValue, e.Weight < 1 || e.Weight > 1000 || e.Len < 1 || e.Len > 64)
}

// wantedValid returns what the chapter says of Valid: the first of all errors.
func wantedValid(g api.Graph) api.Errno {
	var f findings
	f.add(api.ErrLimit, len(g.Nodes) > 64 || len(g.Edges) > 256 || len(g.Clusters) > 16)
	f.add(api.ErrName, !isName(g.Name))
	for v := range g.Nodes {
		f.addNode(g, v)
	}
	for c := range g.Clusters {
		f.addCluster(g, c)
	}
	for _, e := range g.Edges {
		f.addEdge(g, e)
	}
	return append(f, api.OK)[0]
}

// wantedDepth returns the depth of the cluster c by its definition. Parents that
// are not valid end it.
func wantedDepth(g api.Graph, c int) int {
	if p := g.Clusters[c].Parent; p >= 0 && p < c {
		return 1 + wantedDepth(g, p)
	}
	return 1
}

// contains reports whether the cluster c of a valid graph contains the node v,
// by the definition.
func contains(g api.Graph, c, v int) bool {
	if g.Nodes[v].Cluster == c {
		return true
	}
	for d, k := range g.Clusters {
		if k.Parent == c && contains(g, d, v) {
			return true
		}
	}
	return false
}

// wantedMembers returns what the chapter says of Members for a valid graph and a
// cluster.
func wantedMembers(g api.Graph, c int) []int {
	list := []int{}
	for v := range g.Nodes {
		if c == -1 || contains(g, c, v) {
			list = append(list, v)
		}
	}
	return list
}

// wantedCommon returns what the chapter says of Common for a valid graph and
// nodes.
func wantedCommon(g api.Graph, a, b int) int {
	best := -1
	for c := range g.Clusters {
		if contains(g, c, a) && contains(g, c, b) && (best == -1 || wantedDepth(g, c) > wantedDepth(g, best)) {
			best = c
		}
	}
	return best
}

// far returns numbers that are far out of range.
func far() []int {
	return []int{math.MinInt, math.MinInt + 1, math.MinInt32, -1 << 16, -100, 100, 256, 1 << 16, 1 << 32, math.MaxInt - 1, math.MaxInt}
}

// checkNothing checks that the graph and the arguments, of which one is not
// valid, give no members, no depth and no common cluster.
func checkNothing(t *testing.T, g api.Graph, n int) {
	t.Helper()
	if l := graph.Members(g, n); len(l) != 0 {
		t.Errorf("Members(%+v, %d) = %v", g, n, l)
	}
	if d := graph.Depth(g, n); d != 0 {
		t.Errorf("Depth(%+v, %d) = %d", g, n, d)
	}
	for _, m := range []int{n, 0, 1} {
		if a, b := graph.Common(g, n, m), graph.Common(g, m, n); a != -1 || b != -1 {
			t.Errorf("Common(%+v, %d, %d) = %d, %d", g, n, m, a, b)
		}
	}
}

// checkGraph checks all that the chapter says of the graph: whether it is valid,
// and what it answers for all arguments that are in range or close to it.
func checkGraph(t *testing.T, g api.Graph) {
	t.Helper()
	want := wantedValid(g)
	if got := graph.Valid(g); got != want {
		t.Fatalf("Valid(%+v) = %d, want %d", g, got, want)
	}
	if want != api.OK {
		for n := -2; n <= min(max(len(g.Nodes), len(g.Clusters)), 3); n++ {
			checkNothing(t, g, n)
		}
		return
	}
	for c := -1; c < len(g.Clusters); c++ {
		depth := 0
		if c >= 0 {
			depth = wantedDepth(g, c)
		}
		if got := graph.Depth(g, c); got != depth {
			t.Errorf("Depth(%+v, %d) = %d, want %d", g, c, got, depth)
		}
		if got, want := graph.Members(g, c), wantedMembers(g, c); !slices.Equal(got, want) {
			t.Errorf("Members(%+v, %d) = %v, want %v", g, c, got, want)
		}
	}
	for a := range g.Nodes {
		for b := range g.Nodes {
			if got, want := graph.Common(g, a, b), wantedCommon(g, a, b); got != want {
				t.Errorf("Common(%+v, %d, %d) = %d, want %d", g, a, b, got, want)
			}
		}
	}
}

// broken is a change that makes the sample invalid in one way, where the ways
// are in the order of the chapter.
type broken struct {
	what   string
	want   api.Errno
	change func(g *api.Graph)
}

func breaks() []broken {
	return []broken{
		{"65 nodes", api.ErrLimit, func(g *api.Graph) { g.Nodes = append(g.Nodes, nodes(61)...) }},
		{"257 edges", api.ErrLimit, func(g *api.Graph) { g.Edges = append(g.Edges, edges(254)...) }},
		{"17 clusters", api.ErrLimit, func(g *api.Graph) { g.Clusters = append(g.Clusters, clusters(slices.Repeat([]int{-1}, 13)...)...) }},
		{"name", api.ErrName, func(g *api.Graph) { g.Name = "" }},

		{"node 0 name", api.ErrName, func(g *api.Graph) { g.Nodes[0].Name = "edge" }},
		{"node 0 label", api.ErrLimit, func(g *api.Graph) { g.Nodes[0].Label = strings.Repeat("x", 33) }},
		{"node 0 label bytes", api.ErrValue, func(g *api.Graph) { g.Nodes[0].Label += "\x7f" }},
		{"node 0 width", api.ErrRange, func(g *api.Graph) { g.Nodes[0].W = 0 }},
		{"node 0 cluster", api.ErrRange, func(g *api.Graph) { g.Nodes[0].Cluster = 99 }},
		{"node 0 ports", api.ErrLimit, func(g *api.Graph) { g.Nodes[0].Ports = append(g.Nodes[0].Ports, ports(9)...) }},

		{"node 1 name again", api.ErrDup, func(g *api.Graph) { g.Nodes[1].Name = g.Nodes[0].Name }},
		{"node 1 height", api.ErrRange, func(g *api.Graph) { g.Nodes[1].H = maxSize + 1 }},
		{"node 1 cluster", api.ErrRange, func(g *api.Graph) { g.Nodes[1].Cluster = -2 }},
		{"port 0 name", api.ErrName, func(g *api.Graph) { g.Nodes[1].Ports[0].Name = "0" }},
		{"port 0 side", api.ErrValue, func(g *api.Graph) { g.Nodes[1].Ports[0].Side = -1 }},
		{"port 1 name again", api.ErrDup, func(g *api.Graph) { g.Nodes[1].Ports[1].Name = g.Nodes[1].Ports[0].Name }},
		{"port 1 side", api.ErrValue, func(g *api.Graph) { g.Nodes[1].Ports[1].Side = 4 }},

		{"node 2 name", api.ErrName, func(g *api.Graph) { g.Nodes[2].Name = "e-" }},

		{"cluster 0 parent", api.ErrRange, func(g *api.Graph) { g.Clusters[0].Parent = 0 }},
		{"cluster 1 name", api.ErrName, func(g *api.Graph) { g.Clusters[1].Name = "node" }},
		{"cluster 1 parent", api.ErrRange, func(g *api.Graph) { g.Clusters[1].Parent = -2 }},
		{"cluster 2 name again", api.ErrDup, func(g *api.Graph) { g.Clusters[2].Name = g.Clusters[0].Name }},
		{"cluster 3 name of a node", api.ErrDup, func(g *api.Graph) { g.Clusters[3].Name = g.Nodes[3].Name }},
		{"depth 7", api.ErrLimit, func(g *api.Graph) { g.Clusters = append(g.Clusters, deeper(3, 5)...) }},

		{"edge 0 from", api.ErrRange, func(g *api.Graph) { g.Edges[0].From = -1 }},
		{"edge 0 port", api.ErrRange, func(g *api.Graph) { g.Edges[0].ToPort = 2 }},
		{"edge 0 label", api.ErrLimit, func(g *api.Graph) { g.Edges[0].Label = strings.Repeat("\n", 33) }},
		{"edge 0 label bytes", api.ErrValue, func(g *api.Graph) { g.Edges[0].Label += "\x1f" }},
		{"edge 0 weight", api.ErrValue, func(g *api.Graph) { g.Edges[0].Weight = 1001 }},
		{"edge 1 to", api.ErrRange, func(g *api.Graph) { g.Edges[1].To = 99 }},
		{"edge 1 length", api.ErrValue, func(g *api.Graph) { g.Edges[1].Len = 65 }},
		{"edge 2 port", api.ErrRange, func(g *api.Graph) { g.Edges[2].FromPort = -2 }},
		{"edge 2 label bytes", api.ErrValue, func(g *api.Graph) { g.Edges[2].Label = "é" }},
	}
}

// deeper returns n clusters, the first one in the cluster before, and each other
// one in the one before it.
func deeper(before, n int) []api.Cluster {
	list := []api.Cluster{}
	for i := range n {
		list = append(list, api.Cluster{Name: "deep" + strconv.Itoa(i), Parent: before + i})
	}
	return list
}

// P11.1, P11.2, P11.3: the chapter's examples.
func TestExamples(t *testing.T) {
	if got := graph.Valid(api.Graph{}); got != api.ErrName {
		t.Errorf("Valid of the zero graph = %d", got)
	}
	g := api.Graph{
		Name:     "g",
		Nodes:    []api.Node{{Name: "x", W: 1, H: 1, Cluster: 0}, {Name: "y", W: 1, H: 1, Cluster: 1}},
		Clusters: []api.Cluster{{Name: "c", Parent: -1}, {Name: "d", Parent: 0}},
	}
	if graph.Valid(g) != api.OK {
		t.Error("the example is not valid")
	}
	if l := graph.Members(g, 0); !slices.Equal(l, []int{0, 1}) {
		t.Errorf("members of c: %v", l)
	}
	if l := graph.Members(g, 1); !slices.Equal(l, []int{1}) {
		t.Errorf("members of d: %v", l)
	}
	if c := graph.Common(g, 0, 1); c != 0 {
		t.Errorf("common cluster of x and y: %d", c)
	}
}

// P11.1: each rule with what just keeps it.
func TestValidAtTheLimits(t *testing.T) {
	for what, change := range map[string]func(g *api.Graph){
		"nothing":       func(*api.Graph) {},
		"only a name":   func(g *api.Graph) { *g = api.Graph{Name: g.Name} },
		"64 nodes":      func(g *api.Graph) { g.Nodes = append(g.Nodes, nodes(60)...) },
		"256 edges":     func(g *api.Graph) { g.Edges = append(g.Edges, edges(253)...) },
		"16 clusters":   func(g *api.Graph) { g.Clusters = append(g.Clusters, clusters(slices.Repeat([]int{-1}, 12)...)...) },
		"depth 6":       func(g *api.Graph) { g.Clusters = append(g.Clusters, deeper(3, 4)...) },
		"long names":    func(g *api.Graph) { g.Name, g.Nodes[0].Name = strings.Repeat("x", 16), strings.Repeat("y", 16) },
		"similar names": func(g *api.Graph) { g.Nodes[0].Name, g.Nodes[1].Name = "Node", "node_" },
		"name of graph": func(g *api.Graph) { g.Name = "a" },
		"name of port":  func(g *api.Graph) { g.Nodes[1].Ports[0].Name, g.Clusters[2].Name = "a", "q" },
		"undirected":    func(g *api.Graph) { g.Directed = false },
		"long labels": func(g *api.Graph) {
			g.Nodes[0].Label, g.Edges[0].Label = strings.Repeat(" ", 32), strings.Repeat("~", 32)
		},
		"quoted labels": func(g *api.Graph) {
			g.Nodes[0].Label, g.Edges[0].Label = strings.Repeat(`\`, 32), strings.Repeat(`"`, 32)
		},
		"equal labels":     func(g *api.Graph) { g.Nodes[1].Label = g.Nodes[0].Label },
		"least size":       func(g *api.Graph) { g.Nodes[0].W, g.Nodes[0].H = 1, 1 },
		"greatest size":    func(g *api.Graph) { g.Nodes[0].W, g.Nodes[0].H = 1<<20, 1<<20 },
		"last cluster":     func(g *api.Graph) { g.Nodes[0].Cluster = 3 },
		"8 ports":          func(g *api.Graph) { g.Nodes[0].Ports = ports(8) },
		"all last cluster": func(g *api.Graph) { g.Clusters = clusters(-1, 0, 1, 2) },
		"least numbers":    func(g *api.Graph) { g.Edges[1].Weight, g.Edges[1].Len = 1, 1 },
		"parallel edges":   func(g *api.Graph) { g.Edges[1] = g.Edges[0] },
		"last ends":        func(g *api.Graph) { g.Edges[0] = api.Edge{From: 3, To: 3, FromPort: -1, ToPort: -1, Weight: 1, Len: 1} },
	} {
		g := with(change)
		if got := graph.Valid(g); got != api.OK {
			t.Errorf("%s: %d", what, got)
		}
		checkGraph(t, g)
	}
}

// P11.1, P11.3: each rule with what just breaks it.
func TestInvalid(t *testing.T) {
	for _, b := range breaks() {
		g := with(b.change)
		if got := graph.Valid(g); got != b.want {
			t.Errorf("%s: %d, want %d", b.what, got, b.want)
		}
		for n := -2; n < 5; n++ {
			checkNothing(t, g, n)
		}
	}
}

// P11.1, 0.2: of two errors the one that the chapter names first is returned, in
// whatever order they were made.
func TestOrderOfErrors(t *testing.T) {
	for i, a := range breaks() {
		for j, b := range breaks() {
			g := with(a.change, b.change)
			want := breaks()[min(i, j)].want
			if got := graph.Valid(g); got != want || got != wantedValid(g) {
				t.Errorf("%s, %s: %d, want %d", a.what, b.what, got, want)
			}
		}
	}
}

// P11.1, 0.2: a graph that has all errors, which are mended one after the other.
func TestOrderWithinParts(t *testing.T) {
	worst := api.Graph{
		Nodes: []api.Node{{
			Name: "", Label: strings.Repeat("\n", 33), Cluster: -2,
			Ports: slices.Repeat([]api.Port{{Name: "", Side: 5}}, 9),
		}, {Name: "x", Label: "\n", W: 0, H: 1, Cluster: -1}},
		Clusters: []api.Cluster{{Name: "", Parent: 5}},
		Edges:    make([]api.Edge, 257),
	}
	for i, step := range []struct {
		want   api.Errno
		mended func(g *api.Graph)
	}{
		{api.ErrLimit, func(g *api.Graph) { g.Edges = g.Edges[:1] }},
		{api.ErrName, func(g *api.Graph) { g.Name = "g" }},
		{api.ErrName, func(g *api.Graph) { g.Nodes[0].Name = "x" }},
		{api.ErrLimit, func(g *api.Graph) { g.Nodes[0].Label = "\n" }},
		{api.ErrValue, func(g *api.Graph) { g.Nodes[0].Label = "" }},
		{api.ErrRange, func(g *api.Graph) { g.Nodes[0].W = 1 }},
		{api.ErrRange, func(g *api.Graph) { g.Nodes[0].H = 1 }},
		{api.ErrRange, func(g *api.Graph) { g.Nodes[0].Cluster = 0 }},
		{api.ErrLimit, func(g *api.Graph) { g.Nodes[0].Ports = g.Nodes[0].Ports[:2] }},
		{api.ErrName, func(g *api.Graph) { g.Nodes[0].Ports[0].Name = "p" }},
		{api.ErrValue, func(g *api.Graph) { g.Nodes[0].Ports[0].Side = 3 }},
		{api.ErrName, func(g *api.Graph) { g.Nodes[0].Ports[1].Name = "p" }},
		{api.ErrDup, func(g *api.Graph) { g.Nodes[0].Ports[1].Name = "q" }},
		{api.ErrValue, func(g *api.Graph) { g.Nodes[0].Ports[1].Side = 0 }},
		{api.ErrDup, func(g *api.Graph) { g.Nodes[1].Name = "y" }},
		{api.ErrValue, func(g *api.Graph) { g.Nodes[1].Label = "" }},
		{api.ErrRange, func(g *api.Graph) { g.Nodes[1].W = 1 }},
		{api.ErrName, func(g *api.Graph) { g.Clusters[0].Name = "y" }},
		{api.ErrDup, func(g *api.Graph) { g.Clusters[0].Name = "c" }},
		{api.ErrRange, func(g *api.Graph) { g.Clusters[0].Parent = -1 }},
		{api.ErrValue, func(g *api.Graph) { g.Edges = nil }},
		{api.OK, func(*api.Graph) {}},
	} {
		if got := graph.Valid(worst); got != step.want {
			t.Errorf("step %d: %d, want %d", i, got, step.want)
		}
		checkGraph(t, worst)
		step.mended(&worst)
	}
}

// P11.1, 0.2: an edge that has all errors, before another one that is not valid.
func TestOrderWithinEdges(t *testing.T) {
	g := with(func(g *api.Graph) {
		g.Edges = []api.Edge{{From: 4, To: -1, FromPort: -2, ToPort: 5, Label: strings.Repeat("\n", 33)}, {From: -1}}
	})
	e := &g.Edges[0]
	for i, step := range []struct {
		want   api.Errno
		mended func()
	}{
		{api.ErrRange, func() { e.From = 1 }},
		{api.ErrRange, func() { e.To = 2 }},
		{api.ErrRange, func() { e.FromPort = 1 }},
		{api.ErrRange, func() { e.ToPort = 0 }},
		{api.ErrLimit, func() { e.Label = "\n" }},
		{api.ErrValue, func() { e.Label = "l" }},
		{api.ErrValue, func() { e.Weight = 1 }},
		{api.ErrValue, func() { e.Len = 1 }},
		{api.ErrRange, func() { g.Edges = g.Edges[:1] }},
		{api.OK, func() {}},
	} {
		if got := graph.Valid(g); got != step.want {
			t.Errorf("step %d: %d, want %d", i, got, step.want)
		}
		step.mended()
	}
}

// P11.1, 0.2: the nodes come before the clusters, and these before the edges; in
// each list the first error counts.
func TestOrderOfParts(t *testing.T) {
	for i, c := range []struct {
		want   api.Errno
		change func(g *api.Graph)
	}{
		{api.ErrValue, func(g *api.Graph) { g.Nodes[3].Label, g.Clusters[0].Name = "\n", "" }},
		{api.ErrRange, func(g *api.Graph) { g.Clusters[3].Parent, g.Edges[0].Weight = 3, 0 }},
		{api.ErrLimit, func(g *api.Graph) { g.Nodes[0].Ports, g.Nodes[1].Name = ports(9), "a" }},
		{api.ErrDup, func(g *api.Graph) { g.Nodes[1].Name, g.Nodes[2].W = "a", 0 }},
		{api.ErrDup, func(g *api.Graph) { g.Clusters[1].Name, g.Clusters[2].Parent = "c", 2 }},
		{api.ErrValue, func(g *api.Graph) { g.Edges[0].Weight, g.Edges[1].From = 0, -1 }},
		{api.ErrLimit, func(g *api.Graph) { g.Edges[1].Label, g.Edges[2].Len = strings.Repeat("x", 33), 0 }},
		{api.ErrLimit, func(g *api.Graph) { g.Clusters, g.Edges[0].From = clusters(-1, 0, 1, 2, 3, 4, 5), -1 }},
		{api.ErrDup, func(g *api.Graph) { g.Clusters[0].Name, g.Clusters[1].Name = "f", "" }},
	} {
		if got := graph.Valid(with(c.change)); got != c.want {
			t.Errorf("%d: %d, want %d", i, got, c.want)
		}
	}
}

// P11.1: numbers in range and out of it, in each place that has numbers.
func TestNumbers(t *testing.T) {
	numbers := append(far(), minSize-1, minSize, maxSize-1, maxSize, maxSize+1, 999, 1000, 1001, 63, 64, 65)
	for n := -3; n < 6; n++ {
		numbers = append(numbers, n)
	}
	for _, n := range numbers {
		for _, change := range []func(g *api.Graph){
			func(g *api.Graph) { g.Nodes[0].W = n },
			func(g *api.Graph) { g.Nodes[3].H = n },
			func(g *api.Graph) { g.Nodes[0].Cluster = n },
			func(g *api.Graph) { g.Nodes[3].Cluster = n },
			func(g *api.Graph) { g.Nodes[1].Ports[0].Side = n },
			func(g *api.Graph) { g.Nodes[1].Ports[1].Side = n },
			func(g *api.Graph) { g.Clusters[0].Parent = n },
			func(g *api.Graph) { g.Clusters[1].Parent = n },
			func(g *api.Graph) { g.Clusters[2].Parent = n },
			func(g *api.Graph) { g.Clusters[3].Parent = n },
			func(g *api.Graph) { g.Edges[0].From = n },
			func(g *api.Graph) { g.Edges[0].To, g.Edges[0].ToPort = n, -1 },
			func(g *api.Graph) { g.Edges[2].To = n },
			func(g *api.Graph) { g.Edges[0].FromPort = n },
			func(g *api.Graph) { g.Edges[0].ToPort = n },
			func(g *api.Graph) { g.Edges[1].FromPort = n },
			func(g *api.Graph) { g.Edges[1].ToPort = n },
			func(g *api.Graph) { g.Edges[0].Weight = n },
			func(g *api.Graph) { g.Edges[2].Len = n },
		} {
			checkGraph(t, with(change))
		}
	}
}

// P11.1: every byte of names and labels, at each of their places.
func TestEveryByte(t *testing.T) {
	for b := range 256 {
		c := string([]byte{byte(b)})
		for _, s := range []string{c, c + "x", "x" + c, "x" + c + "y", "xy" + c + "\xff", strings.Repeat(c, 16), strings.Repeat(c, 17), strings.Repeat(c, 32), strings.Repeat(c, 33)} {
			checkTexts(t, s)
		}
	}
}

// P11.1: words that are almost names, and labels that are none.
func TestTexts(t *testing.T) {
	for _, s := range []string{
		"", "digraph", "graph", "node", "edge", "set", "cluster", "Graph", "nodes", "ode", "edge_", "a", "b", "e", "f", "c", "d", "h", "i", "p", "q",
		"a\n", " a", "é", "xé", "\u0130", "\u212a", "\u017f", "x\x00", "\ufeffx", "a b", strings.Repeat("é", 16), strings.Repeat("é", 17), strings.Repeat("é", 8),
	} {
		checkTexts(t, s)
	}
}

// checkTexts checks the sample with s in each place that has a text.
func checkTexts(t *testing.T, s string) {
	t.Helper()
	for _, change := range []func(g *api.Graph){
		func(g *api.Graph) { g.Name = s },
		func(g *api.Graph) { g.Nodes[0].Name = s },
		func(g *api.Graph) { g.Nodes[3].Name = s },
		func(g *api.Graph) { g.Nodes[0].Label = s },
		func(g *api.Graph) { g.Nodes[3].Label = s },
		func(g *api.Graph) { g.Nodes[1].Ports[0].Name = s },
		func(g *api.Graph) { g.Nodes[1].Ports[1].Name = s },
		func(g *api.Graph) { g.Clusters[0].Name = s },
		func(g *api.Graph) { g.Clusters[3].Name = s },
		func(g *api.Graph) { g.Edges[0].Label = s },
		func(g *api.Graph) { g.Edges[2].Label = s },
	} {
		g := with(change)
		if got, want := graph.Valid(g), wantedValid(g); got != want {
			t.Errorf("%q: Valid(%+v) = %d, want %d", s, g, got, want)
		}
	}
}

// P11.3: clusters and nodes out of range.
func TestOutOfRange(t *testing.T) {
	g := nested(-1, 0, 1)
	for _, n := range append(far(), -2, 4, 5) {
		checkNothing(t, g, n)
	}
	if l := graph.Members(g, 3); len(l) != 0 {
		t.Errorf("Members(3) = %v", l)
	}
	if d := graph.Depth(g, 3); d != 0 {
		t.Errorf("Depth(3) = %d", d)
	}
	for _, n := range []int{-1, 4} {
		for m := -1; m < 5; m++ {
			if a, b := graph.Common(g, n, m), graph.Common(g, m, n); a != -1 || b != -1 {
				t.Errorf("Common(%d, %d) = %d, %d", n, m, a, b)
			}
		}
	}
	empty := api.Graph{Name: "g"}
	for n := -2; n < 2; n++ {
		checkNothing(t, empty, n)
	}
}

// forests returns all lists of n valid parents.
func forests(n int) [][]int {
	list := [][]int{{}}
	for c := range n {
		var longer [][]int
		for _, l := range list {
			for p := -1; p < c; p++ {
				longer = append(longer, append(slices.Clone(l), p))
			}
		}
		list = longer
	}
	return list
}

// P11.3: all nestings of few clusters, with nodes in all of them.
func TestAllNestings(t *testing.T) {
	for n := range 6 {
		for _, parents := range forests(n) {
			g := nested(parents...)
			checkGraph(t, g)
			slices.Reverse(g.Nodes)
			checkGraph(t, g)
		}
	}
}

// P11.1, P11.3: all lists of few parents, valid or not.
func TestAllParents(t *testing.T) {
	for code := range 6 * 6 * 6 * 6 {
		checkGraph(t, nested(code%6-2, code/6%6-2, code/36%6-2, code/216-2))
	}
}

// P11.1, P11.3: chains of clusters, up to and beyond the greatest depth, also
// such that no cluster stands next to its parent.
func TestDepths(t *testing.T) {
	for n := range 17 {
		for step := 1; step <= 3; step++ {
			parents := []int{}
			for c := range n {
				parents = append(parents, max(c-step, -1))
			}
			g := nested(parents...)
			if want := (n+step-1)/step <= 6; (graph.Valid(g) == api.OK) != want {
				t.Errorf("%v: %d", parents, graph.Valid(g))
			}
			checkGraph(t, g)
		}
	}
}

// maker makes random graphs.
type maker struct{ *rand.Rand }

func newMaker(seed uint64) maker {
	return maker{rand.New(rand.NewPCG(11, seed))}
}

// pick returns one of the elements of l.
func pick[T any](m maker, l []T) T {
	return l[m.IntN(len(l))]
}

// from returns a number from least to most.
func (m maker) from(least, most int) int {
	return least + m.IntN(most-least+1)
}

// graph returns a valid graph with up to n nodes, up to c clusters and up to e
// edges.
func (m maker) graph(n, c, e int) api.Graph {
	g := api.Graph{Name: pick(m, []string{"g", "h", "x0"}), Directed: m.IntN(2) == 0, Nodes: nodes(m.IntN(n + 1))}
	for i := range m.IntN(c + 1) {
		g.Clusters = append(g.Clusters, api.Cluster{Name: "c" + strconv.Itoa(i), Parent: m.from(-1, i-1)})
		if wantedDepth(g, i) > 6 {
			g.Clusters[i].Parent = -1
		}
	}
	for i := range g.Nodes {
		v := &g.Nodes[i]
		v.Label, v.Cluster = pick(m, []string{"", "x", "x y"}), m.from(-1, len(g.Clusters)-1)
		v.W, v.H = m.from(1, maxSize), m.from(1, maxSize)
		v.Ports = ports(pick(m, []int{0, 0, 1, 2, 8}))
	}
	if len(g.Nodes) > 0 {
		for range m.IntN(e + 1) {
			a, b := m.IntN(len(g.Nodes)), m.IntN(len(g.Nodes))
			g.Edges = append(g.Edges, api.Edge{
				From: a, To: b, FromPort: m.from(-1, len(g.Nodes[a].Ports)-1), ToPort: m.from(-1, len(g.Nodes[b].Ports)-1),
				Label: pick(m, []string{"", "x", "x y"}), Weight: m.from(1, 1000), Len: m.from(1, 64),
			})
		}
	}
	return g
}

// spoil changes one thing of g, which may make it invalid.
func (m maker) spoil(g *api.Graph) {
	number := m.from(-3, 10)
	if m.IntN(4) == 0 {
		number = pick(m, append(far(), maxSize, maxSize+1, 1000, 1001))
	}
	text := pick(m, []string{"", "x", "g", "n0", "n1", "n2", "c0", "c1", "p0", "p1", "set", "a-b", "\n", strings.Repeat("x", 16), strings.Repeat("x", 17), strings.Repeat("x", 32), strings.Repeat("x", 33)})
	changes := []func(){
		func() { g.Name = text },
		func() { g.Clusters = append(g.Clusters, api.Cluster{Name: text, Parent: number}) },
		func() { g.Nodes = append(g.Nodes, api.Node{Name: text, W: 1, H: 1, Cluster: number}) },
		func() { g.Edges = append(g.Edges, api.Edge{From: number, FromPort: -1, ToPort: -1, Weight: 1, Len: 1}) },
	}
	if len(g.Nodes) > 0 {
		n := &g.Nodes[m.IntN(len(g.Nodes))]
		changes = append(changes,
			func() { n.Name = text },
			func() { n.Label = text },
			func() { n.W = number },
			func() { n.H = number },
			func() { n.Cluster = number },
			func() { n.Ports = append(n.Ports, api.Port{Name: text, Side: number}) },
		)
	}
	if len(g.Clusters) > 0 {
		k := &g.Clusters[m.IntN(len(g.Clusters))]
		changes = append(changes, func() { k.Name = text }, func() { k.Parent = number })
	}
	if len(g.Edges) > 0 {
		e := &g.Edges[m.IntN(len(g.Edges))]
		changes = append(changes,
			func() { e.From = number },
			func() { e.To = number },
			func() { e.FromPort = number },
			func() { e.ToPort = number },
			func() { e.Label = text },
			func() { e.Weight = number },
			func() { e.Len = number },
		)
	}
	pick(m, changes)()
}

// P11.1, P11.3: random graphs, as they are and with changes.
func TestRandomGraphs(t *testing.T) {
	m := newMaker(1)
	invalid := 0
	for range 4000 {
		g := m.graph(6, 6, 6)
		checkGraph(t, g)
		for range m.from(1, 4) {
			m.spoil(&g)
		}
		checkGraph(t, g)
		if wantedValid(g) != api.OK {
			invalid++
		}
	}
	if invalid < 1000 || invalid > 3900 {
		t.Errorf("%d of 4000 changed graphs are not valid", invalid)
	}
	for range 40 {
		checkGraph(t, m.graph(64, 16, 256))
	}
}

// P11.2
func TestFind(t *testing.T) {
	g := sample()
	for name, want := range map[string]int{"a": 0, "b": 1, "e": 2, "f": 3, "": -1, "g": -1, "c": -1, "d": -1, "p": -1, "A": -1, "a ": -1, "x y": -1, "ab": -1} {
		if got := graph.Find(g, name); got != want {
			t.Errorf("Find(%q) = %d, want %d", name, got, want)
		}
	}
	for _, g := range []api.Graph{{}, {Name: "a", Nodes: []api.Node{}}} {
		if got := graph.Find(g, "a"); got != -1 {
			t.Errorf("Find(%+v) = %d", g, got)
		}
	}
}

// P11.2: names of graphs that are not valid, which may be any and occur again.
func TestFindInAnyGraph(t *testing.T) {
	names := []string{"x", "", "node", "\xff", "x", "", strings.Repeat("x", 40), "a b", "node"}
	g := api.Graph{}
	for _, s := range names {
		g.Nodes = append(g.Nodes, api.Node{Name: s, Label: "y", Cluster: 7})
	}
	for _, s := range append(names, "y", "\xfe", "\ufffd", strings.Repeat("x", 39), strings.Repeat("x", 41)) {
		if got, want := graph.Find(g, s), slices.Index(names, s); got != want {
			t.Errorf("Find(%q) = %d, want %d", s, got, want)
		}
	}
	long := api.Graph{Nodes: append(make([]api.Node, 1000), api.Node{Name: "z"}, api.Node{Name: "z"})}
	if got := graph.Find(long, "z"); got != 1000 {
		t.Errorf("Find = %d, want 1000", got)
	}
}

// P11.2
func TestSkeleton(t *testing.T) {
	for i, c := range []struct {
		g    api.Graph
		n    int
		arcs []api.Arc
	}{
		{sample(), 4, []api.Arc{{From: 0, To: 1}, {From: 1, To: 1}, {From: 3, To: 2}}},
		{with(func(g *api.Graph) { g.Directed = false }), 4, []api.Arc{{From: 0, To: 1}, {From: 1, To: 1}, {From: 3, To: 2}}},
		{with(func(g *api.Graph) { g.Edges = append(g.Edges, g.Edges...) }), 4, []api.Arc{{From: 0, To: 1}, {From: 1, To: 1}, {From: 3, To: 2}, {From: 0, To: 1}, {From: 1, To: 1}, {From: 3, To: 2}}},
		{api.Graph{}, 0, nil},
		{api.Graph{Nodes: make([]api.Node, 100)}, 100, nil},
		{api.Graph{Edges: []api.Edge{{From: -5, To: math.MaxInt}, {From: math.MinInt, To: 0, Weight: 7}}}, 0, []api.Arc{{From: -5, To: math.MaxInt}, {From: math.MinInt, To: 0}}},
		{api.Graph{Nodes: make([]api.Node, 2), Edges: []api.Edge{{From: 1, To: 2, FromPort: 3, ToPort: 4}}}, 2, []api.Arc{{From: 1, To: 2}}},
	} {
		if d := graph.Skeleton(c.g); d.N != c.n || !slices.Equal(d.Arcs, c.arcs) {
			t.Errorf("%d: %+v", i, d)
		}
	}
}

// P11.2: equal graphs, with nil or empty slices, valid or not.
func TestSame(t *testing.T) {
	m := newMaker(2)
	for range 300 {
		g := m.graph(5, 5, 5)
		for range m.IntN(4) {
			m.spoil(&g)
		}
		h := deepCopy(g)
		if !graph.Same(g, h) || !graph.Same(h, g) || !graph.Same(g, g) {
			t.Errorf("%+v is not the same", g)
		}
	}
	empty := api.Graph{Nodes: []api.Node{}, Edges: []api.Edge{}, Clusters: []api.Cluster{}}
	if !graph.Same(api.Graph{}, empty) || !graph.Same(empty, api.Graph{}) {
		t.Error("nil and empty slices are not the same")
	}
	a, b := api.Graph{Nodes: []api.Node{{Ports: nil}}}, api.Graph{Nodes: []api.Node{{Ports: []api.Port{}}}}
	if !graph.Same(a, b) || !graph.Same(b, a) {
		t.Error("nil and empty ports are not the same")
	}
}

// places returns all strings, numbers and bools of what v points to, at every
// level.
func places(v reflect.Value) []reflect.Value {
	switch v.Kind() {
	case reflect.Struct:
		list := []reflect.Value{}
		for i := range v.NumField() {
			list = append(list, places(v.Field(i))...)
		}
		return list
	case reflect.Slice:
		list := []reflect.Value{}
		for i := range v.Len() {
			list = append(list, places(v.Index(i))...)
		}
		return list
	}
	return []reflect.Value{v}
}

// slicesOf returns all slices of v, at every level.
func slicesOf(v reflect.Value) []reflect.Value {
	list := []reflect.Value{}
	switch v.Kind() {
	case reflect.Struct:
		for i := range v.NumField() {
			list = append(list, slicesOf(v.Field(i))...)
		}
	case reflect.Slice:
		list = append(list, v)
		for i := range v.Len() {
			list = append(list, slicesOf(v.Index(i))...)
		}
	}
	return list
}

// checkDiffer checks that a and b are not the same.
func checkDiffer(t *testing.T, a, b api.Graph) {
	t.Helper()
	if graph.Same(a, b) || graph.Same(b, a) {
		t.Errorf("%+v and %+v are the same", a, b)
	}
}

// P11.2: graphs that differ in one component, whichever it is, and graphs that
// have one element more, less, twice, or at another place.
func TestNotSame(t *testing.T) {
	for i := range places(reflect.ValueOf(sample())) {
		g := deepCopy(sample())
		switch v := places(reflect.ValueOf(&g).Elem())[i]; v.Kind() {
		case reflect.String:
			v.SetString(v.String() + "\x00")
		case reflect.Int:
			v.SetInt(v.Int() + 1<<32)
		case reflect.Bool:
			v.SetBool(!v.Bool())
		default:
			t.Fatal(v.Kind())
		}
		checkDiffer(t, sample(), g)
	}
	for i, v := range slicesOf(reflect.ValueOf(sample())) {
		changed := func(change func(v reflect.Value)) api.Graph {
			g := deepCopy(sample())
			change(slicesOf(reflect.ValueOf(&g).Elem())[i])
			return g
		}
		grown := changed(func(v reflect.Value) { v.Set(reflect.Append(v, reflect.Zero(v.Type().Elem()))) })
		checkDiffer(t, sample(), grown)
		if v.Len() > 0 {
			checkDiffer(t, sample(), changed(func(v reflect.Value) { v.Set(v.Slice(0, v.Len()-1)) }))
			checkDiffer(t, sample(), changed(func(v reflect.Value) { v.Set(v.Slice(1, v.Len())) }))
			checkDiffer(t, sample(), changed(func(v reflect.Value) { v.SetZero() }))
		}
		if v.Len() > 1 {
			checkDiffer(t, sample(), changed(func(v reflect.Value) { reflect.Swapper(v.Interface())(0, 1) }))
		}
	}
}

// P11.2: Same and equality by reflection agree for random graphs that are alike.
func TestSameOfRandomGraphs(t *testing.T) {
	m := newMaker(3)
	for range 2000 {
		g := m.graph(3, 2, 2)
		h := deepCopy(g)
		m.spoil(&h)
		if got, want := graph.Same(g, h), same(g, h); got != want || graph.Same(h, g) != want {
			t.Errorf("Same(%+v, %+v) = %t, want %t", g, h, got, want)
		}
	}
}

// P11.4, P11.5: the consequences, for random valid graphs.
func TestConsequences(t *testing.T) {
	m := newMaker(4)
	isSubset := func(a, b []int) bool {
		return !slices.ContainsFunc(a, func(v int) bool { return !slices.Contains(b, v) })
	}
	for range 60 {
		g := m.graph(12, 16, 3)
		members := map[int][]int{}
		for c := -1; c < len(g.Clusters); c++ {
			members[c] = graph.Members(g, c)
			if c >= 0 && !isSubset(members[c], members[g.Clusters[c].Parent]) {
				t.Errorf("members %v of %d, in %+v", members[c], c, g)
			}
			if c >= 0 && graph.Depth(g, c) != 1+graph.Depth(g, g.Clusters[c].Parent) {
				t.Errorf("depth of %d in %+v", c, g)
			}
		}
		for a := range g.Nodes {
			if c := graph.Common(g, a, a); c != g.Nodes[a].Cluster {
				t.Errorf("Common(%+v, %d, %d) = %d", g, a, a, c)
			}
			for b := range g.Nodes {
				c := graph.Common(g, a, b)
				both := []int{a, b}
				if c != graph.Common(g, b, a) || !isSubset(both, members[c]) {
					t.Errorf("Common(%+v, %d, %d) = %d", g, a, b, c)
				}
				for d := -1; d < len(g.Clusters); d++ {
					if isSubset(both, members[d]) && !isSubset(members[c], members[d]) {
						t.Errorf("Common(%+v, %d, %d) = %d, but %d is smaller", g, a, b, c, d)
					}
				}
			}
		}
	}
}

// withSpare returns a copy of g in which all slices have elements behind their
// ends, and what is there.
func withSpare(g api.Graph) (api.Graph, func() bool) {
	g = deepCopy(g)
	extraNode := api.Node{Name: "spare", W: -1, Cluster: 99, Ports: []api.Port{{Name: "spare"}}}
	extraPort, extraEdge, extraCluster := api.Port{Name: "spare", Side: 9}, api.Edge{From: -7, Label: "\n"}, api.Cluster{Name: "spare", Parent: 77}
	checks := []func() bool{}
	for i := range g.Nodes {
		n := &g.Nodes[i]
		n.Ports = append(n.Ports, extraPort)
		all := n.Ports
		n.Ports = all[:len(all)-1]
		checks = append(checks, func() bool { return all[len(all)-1] == extraPort })
	}
	ns, es, cs := append(g.Nodes, extraNode), append(g.Edges, extraEdge), append(g.Clusters, extraCluster)
	g.Nodes, g.Edges, g.Clusters = ns[:len(ns)-1], es[:len(es)-1], cs[:len(cs)-1]
	return g, func() bool {
		for _, check := range checks {
			if !check() {
				return false
			}
		}
		return reflect.DeepEqual(ns[len(ns)-1], extraNode) && es[len(es)-1] == extraEdge && cs[len(cs)-1] == extraCluster
	}
}

// 0.4, 0.8: arguments stay as they are, and what lies behind the end of a slice
// does not count.
func TestArguments(t *testing.T) {
	m := newMaker(5)
	for i := range 300 {
		plain := m.graph(5, 5, 5)
		if i%3 == 0 {
			m.spoil(&plain)
		}
		g, spareIsKept := withSpare(plain)
		if graph.Valid(g) != wantedValid(plain) || !graph.Same(g, plain) || graph.Find(g, "spare") != graph.Find(plain, "spare") {
			t.Errorf("%+v: spare elements count", plain)
		}
		checkGraph(t, g)
		if d := graph.Skeleton(g); d.N != len(plain.Nodes) || len(d.Arcs) != len(plain.Edges) {
			t.Errorf("Skeleton(%+v) = %+v", plain, d)
		}
		if !same(g, plain) || !spareIsKept() {
			t.Errorf("%+v has changed to %+v", plain, g)
		}
	}
}

// 0.4, 0.9: results are new memory, and equal from call to call.
func TestNewMemory(t *testing.T) {
	g := sample()
	for c := -1; c < len(g.Clusters); c++ {
		first := graph.Members(g, c)
		for i := range first {
			first[i] = 99
		}
		if second := graph.Members(g, c); !slices.Equal(second, wantedMembers(g, c)) {
			t.Errorf("Members(%d) = %v", c, second)
		}
	}
	first := graph.Skeleton(g)
	clear(first.Arcs)
	if second := graph.Skeleton(g); !slices.Equal(second.Arcs, []api.Arc{{From: 0, To: 1}, {From: 1, To: 1}, {From: 3, To: 2}}) {
		t.Errorf("Skeleton = %+v", second)
	}
	if !same(g, sample()) {
		t.Errorf("the graph has changed to %+v", g)
	}
}

// 0.1: graphs, lists and texts far beyond the limits.
func TestLongArguments(t *testing.T) {
	const many = 1 << 20
	long := strings.Repeat("x", many)
	for want, changes := range map[api.Errno][]func(g *api.Graph){
		api.ErrName: {
			func(g *api.Graph) { g.Name = long },
			func(g *api.Graph) { g.Nodes[1].Name = long },
			func(g *api.Graph) { g.Nodes[1].Ports[1].Name = long },
			func(g *api.Graph) { g.Clusters[1].Name = long },
		},
		api.ErrLimit: {
			func(g *api.Graph) { g.Nodes = make([]api.Node, many) },
			func(g *api.Graph) { g.Edges = make([]api.Edge, many) },
			func(g *api.Graph) { g.Clusters = make([]api.Cluster, many) },
			func(g *api.Graph) { g.Nodes[3].Ports = make([]api.Port, many) },
			func(g *api.Graph) { g.Nodes[3].Label = long },
			func(g *api.Graph) { g.Edges[2].Label = long },
		},
	} {
		for i, change := range changes {
			g, h := with(change), with(change)
			if got := graph.Valid(g); got != want {
				t.Errorf("%d: %d, want %d", i, got, want)
			}
			checkNothing(t, g, 0)
			if !graph.Same(g, h) || graph.Same(g, sample()) {
				t.Errorf("%d: Same", i)
			}
			if d := graph.Skeleton(g); d.N != len(g.Nodes) || len(d.Arcs) != len(g.Edges) {
				t.Errorf("%d: Skeleton", i)
			}
			if got := graph.Find(g, "zz"); got != -1 {
				t.Errorf("%d: Find = %d", i, got)
			}
		}
	}
}
