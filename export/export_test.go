package export_test

import (
	"math"
	"math/rand/v2"
	"reflect"
	"slices"
	"strconv"
	"strings"
	"testing"

	"layout/api"
	"layout/export"
	"layout/graph"
	"layout/normalize"
	"layout/parser"
	"layout/printer"
	"layout/tree"
)

const (
	maxSize   = 1 << 20
	maxSource = 1 << 14
)

// usual returns the options that have all defaults of the chapters.
func usual() api.Options {
	return api.Options{Mode: api.Layered, NodeSep: 10000, RankSep: 20000, Margin: 5000, Rounds: 8}
}

// plain returns a node that has all defaults of the chapters.
func plain(name string, cluster int) api.Node {
	return api.Node{Name: name, Label: name, W: 20000, H: 10000, Cluster: cluster}
}

// link returns an edge that has all defaults of the chapters.
func link(from, to int) api.Edge {
	return api.Edge{From: from, To: to, FromPort: -1, ToPort: -1, Weight: 1, Len: 1}
}

// with returns x after the changes.
func with[T any](x T, changes ...func(x *T)) T {
	for _, change := range changes {
		change(&x)
	}
	return x
}

// nodes returns a graph without clusters.
func nodes(l ...api.Node) api.Graph {
	return api.Graph{Name: "g", Nodes: l}
}

// nested returns a graph with a cluster for each of the parents, and a node in
// each of the clusters in.
func nested(parents, in []int) api.Graph {
	g := api.Graph{Name: "g"}
	for i, parent := range parents {
		g.Clusters = append(g.Clusters, api.Cluster{Name: "k" + strconv.Itoa(i), Parent: parent})
	}
	for i, cluster := range in {
		g.Nodes = append(g.Nodes, plain("n"+strconv.Itoa(i), cluster))
	}
	return g
}

// read returns the tree of a description.
func read(t *testing.T, source string) api.Tree {
	t.Helper()
	x, line, err := parser.Parse(source)
	if err != api.OK {
		t.Fatalf("%s: error %d in line %d", source, err, line)
	}
	return x
}

// copiedGraph returns a graph that is equal to g, shares no memory with it, and
// has no nil slices, so that reflect.DeepEqual compares it with others.
func copiedGraph(g api.Graph) api.Graph {
	g.Nodes = append([]api.Node{}, g.Nodes...)
	for i := range g.Nodes {
		g.Nodes[i].Ports = append([]api.Port{}, g.Nodes[i].Ports...)
	}
	g.Edges = append([]api.Edge{}, g.Edges...)
	g.Clusters = append([]api.Cluster{}, g.Clusters...)
	return g
}

func sameGraph(a, b api.Graph) bool {
	return reflect.DeepEqual(copiedGraph(a), copiedGraph(b))
}

// copiedTree returns a tree that is equal to t, shares no memory with it, and has
// no nil slices.
func copiedTree(t api.Tree) api.Tree {
	t.Body = copiedBody(t.Body)
	return t
}

func copiedBody(body []api.Stmt) []api.Stmt {
	list := []api.Stmt{}
	for _, s := range body {
		s.Refs, s.Attrs = append([]api.Ref{}, s.Refs...), append([]api.Attr{}, s.Attrs...)
		s.Body = copiedBody(s.Body)
		list = append(list, s)
	}
	return list
}

func sameTree(a, b api.Tree) bool {
	return reflect.DeepEqual(copiedTree(a), copiedTree(b))
}

// decimal returns the text of n thousandths.
func decimal(n int) string {
	return strconv.FormatFloat(float64(n)/1000, 'f', -1, 64)
}

// unless returns the attribute with the key and val, or none if it is not needed.
func unless(isUsual bool, key, val string) []api.Attr {
	if isUsual {
		return nil
	}
	return []api.Attr{{Key: key, Val: val}}
}

// wantedSettings returns the statements of the options.
func wantedSettings(o api.Options) []api.Stmt {
	modes := []string{"layered", "orthogonal", "straight", "tidy", "radial"}
	list := []api.Stmt{}
	for _, a := range slices.Concat(
		unless(o.Mode == 0, "mode", modes[o.Mode]),
		unless(o.NodeSep == 10000, "nodesep", decimal(o.NodeSep)),
		unless(o.RankSep == 20000, "ranksep", decimal(o.RankSep)),
		unless(o.Margin == 5000, "margin", decimal(o.Margin)),
		unless(o.Rounds == 8, "rounds", strconv.Itoa(o.Rounds)),
	) {
		list = append(list, api.Stmt{Kind: api.SSet, Name: a.Key, Attrs: []api.Attr{{Val: a.Val}}})
	}
	return list
}

// wantedPorts returns the value of the attribute ports.
func wantedPorts(l []api.Port) string {
	val := ""
	for i, p := range l {
		if i > 0 {
			val += ", "
		}
		val += p.Name + " " + map[int]string{api.Top: "top", api.Right: "right", api.Bottom: "bottom", api.Left: "left"}[p.Side]
	}
	return val
}

// wantedNode returns the statement of a node.
func wantedNode(n api.Node) api.Stmt {
	return api.Stmt{Kind: api.SNode, Name: n.Name, Attrs: slices.Concat(
		unless(n.H == 10000, "height", decimal(n.H)),
		unless(n.Label == n.Name, "label", n.Label),
		unless(len(n.Ports) == 0, "ports", wantedPorts(n.Ports)),
		unless(n.W == 20000, "width", decimal(n.W)),
	)}
}

// wantedEdge returns the statement of an edge.
func wantedEdge(g api.Graph, e api.Edge) api.Stmt {
	refs := []api.Ref{{Node: g.Nodes[e.From].Name}, {Node: g.Nodes[e.To].Name}}
	for i, p := range []int{e.FromPort, e.ToPort} {
		if p >= 0 {
			refs[i].Port = g.Nodes[[]int{e.From, e.To}[i]].Ports[p].Name
		}
	}
	return api.Stmt{Kind: api.SEdge, Refs: refs, Attrs: slices.Concat(
		unless(e.Label == "", "label", e.Label),
		unless(e.Len == 1, "len", strconv.Itoa(e.Len)),
		unless(e.Weight == 1, "weight", strconv.Itoa(e.Weight)),
	)}
}

// item is a node or a cluster.
type item struct {
	isCluster bool
	at        int
}

// orders looks for the orders in which a description can declare nodes and
// clusters; dead are the states from which there is none.
type orders struct {
	graph api.Graph
	dead  map[[3]int]bool
}

// isOpen reports whether the statement of the block lies around the end of that
// of the block last, or is it.
func (s orders) isOpen(block, last int) bool {
	for ; last != -1; last = s.graph.Clusters[last].Parent {
		if last == block {
			return true
		}
	}
	return block == -1
}

// from returns the nodes from v on and the clusters from c on in preorder, where
// the last statement before them ends in the block last. Of all natural orders it
// is the one where the clusters come as early as possible: a cluster comes ahead
// of a node wherever all others can follow it. There may be none.
func (s orders) from(last, v, c int) ([]item, bool) {
	g, state := s.graph, [3]int{last, v, c}
	if v == len(g.Nodes) && c == len(g.Clusters) {
		return nil, true
	}
	if s.dead[state] {
		return nil, false
	}
	if c < len(g.Clusters) && s.isOpen(g.Clusters[c].Parent, last) {
		if rest, ok := s.from(c, v, c+1); ok {
			return append([]item{{true, c}}, rest...), true
		}
	}
	if v < len(g.Nodes) && s.isOpen(g.Nodes[v].Cluster, last) {
		if rest, ok := s.from(g.Nodes[v].Cluster, v+1, c); ok {
			return append([]item{{false, v}}, rest...), true
		}
	}
	s.dead[state] = true
	return nil, false
}

// wantedBody returns the statements of the nodes and clusters in the block.
func wantedBody(g api.Graph, order []item, block int) []api.Stmt {
	list := []api.Stmt{}
	for _, x := range order {
		switch {
		case x.isCluster && g.Clusters[x.at].Parent == block:
			list = append(list, api.Stmt{Kind: api.SCluster, Name: g.Clusters[x.at].Name, Body: wantedBody(g, order, x.at)})
		case !x.isCluster && g.Nodes[x.at].Cluster == block:
			list = append(list, wantedNode(g.Nodes[x.at]))
		}
	}
	return list
}

// wantedTree returns what the chapter says of Tree.
func wantedTree(g api.Graph, o api.Options) (api.Tree, api.Errno) {
	if graph.Valid(g) != api.OK || !normalize.ValidOptions(o) {
		return api.Tree{}, api.ErrArg
	}
	order, ok := orders{g, map[[3]int]bool{}}.from(-1, 0, 0)
	if !ok {
		return api.Tree{}, api.ErrArg
	}
	for _, n := range g.Nodes {
		if len(wantedPorts(n.Ports)) > 32 {
			return api.Tree{}, api.ErrLimit
		}
	}
	body := append(wantedSettings(o), wantedBody(g, order, -1)...)
	for _, e := range g.Edges {
		body = append(body, wantedEdge(g, e))
	}
	return api.Tree{Name: g.Name, Directed: g.Directed, Body: body}, api.OK
}

// checkRestored checks that g and o are what x describes.
func checkRestored(t *testing.T, x api.Tree, g api.Graph, o api.Options) {
	t.Helper()
	if err := tree.Valid(x); err != api.OK {
		t.Errorf("%+v: the tree is not valid: %d", x, err)
	}
	if h, err := normalize.Build(x); err != api.OK || !sameGraph(g, h) {
		t.Errorf("%+v: Build = %+v, %d, want %+v", x, h, err, g)
	}
	if p, err := normalize.Options(x); err != api.OK || o != p {
		t.Errorf("%+v: Options = %+v, %d, want %+v", x, p, err, o)
	}
}

// checkText checks Text, where x and err are what Tree returns, and returns its
// error.
func checkText(t *testing.T, g api.Graph, o api.Options, x api.Tree, err api.Errno) api.Errno {
	t.Helper()
	want := printer.Print(x)
	switch {
	case err != api.OK:
		want = ""
	case len(want) > maxSource:
		want, err = "", api.ErrLimit
	}
	text, got := export.Text(g, o)
	if got != err || text != want {
		t.Errorf("Text(%+v, %+v) = %q, %d, want %q, %d", g, o, text, got, want, err)
	}
	if got == api.OK {
		y, line, err := parser.Parse(text)
		if err != api.OK || line != 0 || !sameTree(x, y) {
			t.Errorf("%s: Parse = %+v, %d, %d", text, y, line, err)
		}
		checkRestored(t, y, g, o)
	}
	return got
}

// check checks all that the chapter says of the graph and the options, and
// returns the errors of Tree and Text.
func check(t *testing.T, g api.Graph, o api.Options) (ofTree, ofText api.Errno) {
	t.Helper()
	before := copiedGraph(g)
	want, wantErr := wantedTree(g, o)
	x, ofTree := export.Tree(g, o)
	if ofTree != wantErr || !sameTree(x, want) {
		t.Errorf("Tree(%+v, %+v) = %+v, %d, want %+v, %d", g, o, x, ofTree, want, wantErr)
	}
	if ofTree == api.OK {
		checkRestored(t, x, g, o)
	}
	ofText = checkText(t, g, o, x, ofTree)
	if !reflect.DeepEqual(before, copiedGraph(g)) {
		t.Fatalf("%+v was changed, it is now %+v", before, g)
	}
	return ofTree, ofText
}

// checkErrors checks the errors of Tree and Text, and all else.
func checkErrors(t *testing.T, what string, g api.Graph, o api.Options, ofTree, ofText api.Errno) {
	t.Helper()
	if x, y := check(t, g, o); x != ofTree || y != ofText {
		t.Errorf("%s: Tree and Text return %d and %d, want %d and %d", what, x, y, ofTree, ofText)
	}
}

// written is a graph with the lines of its description between the first line
// and the last one, where its name is g.
type written struct {
	g     api.Graph
	o     api.Options
	lines []string
}

func checkWritten(t *testing.T, list []written) {
	t.Helper()
	for i, c := range list {
		first := "graph g {\n"
		if c.g.Directed {
			first = "digraph g {\n"
		}
		want := first
		for _, line := range c.lines {
			want += "    " + line + "\n"
		}
		want += "}\n"
		c.g.Name = "g"
		if text, err := export.Text(c.g, c.o); err != api.OK || text != want {
			t.Errorf("graph %d: %d, %s, want %s", i, err, text, want)
		}
		checkErrors(t, "graph "+strconv.Itoa(i), c.g, c.o, api.OK, api.OK)
	}
}

// P13.1, P13.2: the chapter's examples.
func TestExamples(t *testing.T) {
	g := api.Graph{
		Name: "g", Directed: true,
		Nodes:    []api.Node{plain("a", -1), {Name: "b", Label: "x", W: 2000, H: 10000}},
		Edges:    []api.Edge{{From: 0, To: 1, FromPort: -1, ToPort: -1, Weight: 2, Len: 1}},
		Clusters: []api.Cluster{{Name: "c", Parent: -1}},
	}
	want := api.Tree{Name: "g", Directed: true, Body: []api.Stmt{
		{Kind: api.SNode, Name: "a"},
		{Kind: api.SCluster, Name: "c", Body: []api.Stmt{
			{Kind: api.SNode, Name: "b", Attrs: []api.Attr{{Key: "label", Val: "x"}, {Key: "width", Val: "2"}}},
		}},
		{Kind: api.SEdge, Refs: []api.Ref{{Node: "a"}, {Node: "b"}}, Attrs: []api.Attr{{Key: "weight", Val: "2"}}},
	}}
	if x, err := export.Tree(g, usual()); err != api.OK || !sameTree(x, want) {
		t.Errorf("example 1: %+v, %d", x, err)
	}
	text := "digraph g {\n    a;\n    cluster c {\n        b [label=x, width=2];\n    }\n    a -> b [weight=2];\n}\n"
	if s, err := export.Text(g, usual()); err != api.OK || s != text {
		t.Errorf("example 1: %q, %d", s, err)
	}
	check(t, g, usual())
	c := []api.Cluster{{Name: "c", Parent: -1}}
	checkWritten(t, []written{
		{api.Graph{Nodes: []api.Node{plain("b", 0), plain("a", -1)}, Clusters: c}, usual(), []string{"cluster c {", "    b;", "}", "a;"}},
		{nested([]int{-1, 0, -1}, []int{0, 1, 2}), usual(), []string{"cluster k0 {", "    n0;", "    cluster k1 {", "        n1;", "    }", "}", "cluster k2 {", "    n2;", "}"}},
	})
	checkErrors(t, "example 2", nested([]int{-1}, []int{0, -1, 0}), usual(), api.ErrArg, api.ErrArg)
}

// P13.1: each option with each value, alone and with others.
func TestSettings(t *testing.T) {
	lines := func(o api.Options, l ...string) written { return written{g: api.Graph{}, o: o, lines: l} }
	list := []written{
		lines(usual()),
		lines(api.Options{}, "set nodesep = 0;", "set ranksep = 0;", "set margin = 0;", "set rounds = 0;"),
		lines(
			api.Options{Mode: api.Radial, NodeSep: maxSize, RankSep: maxSize, Margin: maxSize, Rounds: 100},
			"set mode = radial;", "set nodesep = 1048.576;", "set ranksep = 1048.576;", "set margin = 1048.576;", "set rounds = 100;",
		),
		lines(
			api.Options{Mode: api.Tidy, NodeSep: 20000, RankSep: 10000, Margin: 8000, Rounds: 5},
			"set mode = tidy;", "set nodesep = 20;", "set ranksep = 10;", "set margin = 8;", "set rounds = 5;",
		),
	}
	for mode, word := range map[int]string{api.Orthogonal: "orthogonal", api.Straight: "straight", api.Tidy: "tidy", api.Radial: "radial"} {
		list = append(list, lines(with(usual(), func(o *api.Options) { o.Mode = mode }), "set mode = "+word+";"))
	}
	for val, text := range map[int]string{0: "0", 1: "0.001", 10: "0.01", 999: "0.999", 4999: "4.999", 5001: "5.001", 10001: "10.001", 19999: "19.999", 25000: "25", 123450: "123.45", maxSize - 1: "1048.575", maxSize: "1048.576"} {
		list = append(list,
			lines(with(usual(), func(o *api.Options) { o.NodeSep = val }), "set nodesep = "+text+";"),
			lines(with(usual(), func(o *api.Options) { o.RankSep = val }), "set ranksep = "+text+";"),
			lines(with(usual(), func(o *api.Options) { o.Margin = val }), "set margin = "+text+";"),
		)
	}
	for _, val := range []int{0, 1, 5, 7, 9, 10, 20, 99, 100} {
		list = append(list, lines(with(usual(), func(o *api.Options) { o.Rounds = val }), "set rounds = "+strconv.Itoa(val)+";"))
	}
	checkWritten(t, list)
	choices := func(least, most, preset int) []int { return []int{least, preset, most, preset + 1} }
	for _, mode := range []int{0, 1, 4} {
		for _, nodeSep := range choices(0, maxSize, 10000) {
			for _, rankSep := range choices(0, maxSize, 20000) {
				for _, margin := range choices(0, maxSize, 5000) {
					for _, rounds := range choices(0, 100, 8) {
						checkErrors(t, "options", nodes(plain("a", -1)), api.Options{Mode: mode, NodeSep: nodeSep, RankSep: rankSep, Margin: margin, Rounds: rounds}, api.OK, api.OK)
					}
				}
			}
		}
	}
}

func width(w int) func(n *api.Node)       { return func(n *api.Node) { n.W = w } }
func height(h int) func(n *api.Node)      { return func(n *api.Node) { n.H = h } }
func label(l string) func(n *api.Node)    { return func(n *api.Node) { n.Label = l } }
func ports(l ...api.Port) func(*api.Node) { return func(n *api.Node) { n.Ports = l } }
func weight(w int) func(e *api.Edge)      { return func(e *api.Edge) { e.Weight = w } }
func length(l int) func(e *api.Edge)      { return func(e *api.Edge) { e.Len = l } }
func text(l string) func(e *api.Edge)     { return func(e *api.Edge) { e.Label = l } }
func at(from, to int) func(e *api.Edge) {
	return func(e *api.Edge) { e.FromPort, e.ToPort = from, to }
}

// labels are labels with the texts of their values.
func labels() map[string]string {
	return map[string]string{
		"": `""`, "x": "x", "x y": `"x y"`, " ": `" "`, "node": `"node"`, "graph": `"graph"`, "A": "A", "a1": "a1", "_": "_",
		"1": "1", "1.5": "1.5", "-1": "-1", "1.50": `"1.50"`, "-0": `"-0"`, "0": "0", "01": `"01"`, "268435.457": `"268435.457"`, "268435.456": "268435.456",
		`"`: `"\""`, `\`: `"\\"`, "#": `"#"`, "a;}": `"a;}"`, "a-b": `"a-b"`, "~": `"~"`, "a\\\"b": `"a\\\"b"`,
		strings.Repeat("x", 16): strings.Repeat("x", 16), strings.Repeat("x", 17): `"` + strings.Repeat("x", 17) + `"`,
		strings.Repeat("y ", 16): `"` + strings.Repeat("y ", 16) + `"`, strings.Repeat(`"`, 32): `"` + strings.Repeat(`\"`, 32) + `"`,
	}
}

// P13.1: the attributes of nodes, each alone and with others.
func TestNodes(t *testing.T) {
	a, p, q := plain("a", -1), api.Port{Name: "p", Side: api.Right}, api.Port{Name: "in", Side: api.Bottom}
	line := func(n api.Node, lines ...string) written { return written{nodes(n), usual(), lines} }
	list := []written{
		line(a, "a;"),
		line(plain("g", -1), "g;"),
		line(plain("abcdefghijklmnop", -1), "abcdefghijklmnop;"),
		line(with(a, width(10000), height(20000)), "a [height=20, width=10];"),
		line(with(a, width(1), height(maxSize)), "a [height=1048.576, width=0.001];"),
		line(with(a, width(maxSize), height(1)), "a [height=0.001, width=1048.576];"),
		line(with(a, width(20001), height(9999)), "a [height=9.999, width=20.001];"),
		line(with(a, width(500), label("b")), "a [label=b, width=0.5];"),
		line(with(a, height(3000), ports(p)), `a [height=3, ports="p right"];`),
		line(with(a, height(2500), label(""), ports(p, q), width(30000)), `a [height=2.5, label="", ports="p right, in bottom", width=30];`),
		line(with(a, ports(api.Port{Name: "a", Side: api.Top})), `a [ports="a top"];`),
		line(with(a, ports(api.Port{Name: "b", Side: api.Left})), `a [ports="b left"];`),
		line(with(a, ports(q, p)), `a [ports="in bottom, p right"];`),
		line(with(a, label("top"), ports(api.Port{Name: "top", Side: api.Top}, api.Port{Name: "left", Side: api.Right})), `a [label=top, ports="top top, left right"];`),
	}
	for l, val := range labels() {
		list = append(list, line(with(a, label(l)), "a [label="+val+"];"))
	}
	checkWritten(t, list)
	for i := range 16 {
		n := a
		for j, change := range []func(*api.Node){width(1234), height(5678), label("node 1"), ports(p, q)} {
			if i>>j&1 == 1 {
				change(&n)
			}
		}
		checkErrors(t, "attributes of a node", nodes(n, plain("b", -1)), usual(), api.OK, api.OK)
	}
	checkWritten(t, []written{{nodes(plain("c", -1), with(plain("b", -1), label("c")), with(a, width(2000)), plain("d", -1)), usual(), []string{"c;", "b [label=c];", "a [width=2];", "d;"}}})
}

// P13.1: the attributes of edges, each alone and with others, and their ends.
func TestEdges(t *testing.T) {
	p, q := api.Port{Name: "p", Side: api.Right}, api.Port{Name: "q", Side: api.Bottom}
	both := api.Graph{Nodes: []api.Node{with(plain("a", -1), ports(p, q)), with(plain("b", -1), ports(q, api.Port{Name: "b"}))}}
	first := []string{`a [ports="p right, q bottom"];`, `b [ports="q bottom, b top"];`}
	line := func(e api.Edge, line string) written {
		g := copiedGraph(both)
		g.Edges = []api.Edge{e}
		return written{g, usual(), append(slices.Clone(first), line)}
	}
	list := []written{
		line(link(0, 1), "a -- b;"),
		line(link(1, 0), "b -- a;"),
		line(link(0, 0), "a -- a;"),
		line(with(link(0, 1), weight(2)), "a -- b [weight=2];"),
		line(with(link(0, 1), weight(1000)), "a -- b [weight=1000];"),
		line(with(link(0, 1), length(2)), "a -- b [len=2];"),
		line(with(link(0, 1), length(64)), "a -- b [len=64];"),
		line(with(link(0, 1), length(3), weight(10)), "a -- b [len=3, weight=10];"),
		line(with(link(0, 1), text("x y"), weight(999)), `a -- b [label="x y", weight=999];`),
		line(with(link(0, 1), text("b"), length(10), weight(64)), "a -- b [label=b, len=10, weight=64];"),
		line(with(link(0, 1), at(0, -1)), "a:p -- b;"),
		line(with(link(0, 1), at(1, -1)), "a:q -- b;"),
		line(with(link(0, 1), at(-1, 0)), "a -- b:q;"),
		line(with(link(0, 1), at(-1, 1)), "a -- b:b;"),
		line(with(link(1, 0), at(1, 0)), "b:b -- a:p;"),
		line(with(link(0, 0), at(0, 1), text("1")), "a:p -- a:q [label=1];"),
		line(with(link(1, 1), at(1, 1)), "b:b -- b:b;"),
	}
	for l, val := range labels() {
		suffix := " [label=" + val + "];"
		if l == "" {
			suffix = ";"
		}
		list = append(list, line(with(link(1, 0), text(l)), "b -- a"+suffix))
	}
	checkWritten(t, list)
	for directed, arrow := range map[bool]string{false: " -- ", true: " -> "} {
		g := nested([]int{-1}, []int{0, 0, -1})
		g.Directed = directed
		g.Edges = []api.Edge{link(2, 0), link(0, 1), with(link(0, 1), weight(3)), link(1, 0), link(2, 2), link(0, 1), link(2, 0)}
		lines := []string{"cluster k0 {", "    n0;", "    n1;", "}", "n2;", "n2_n0;", "n0_n1;", "n0_n1 [weight=3];", "n1_n0;", "n2_n2;", "n0_n1;", "n2_n0;"}
		for i := range lines {
			lines[i] = strings.ReplaceAll(lines[i], "_", arrow)
		}
		checkWritten(t, []written{{g, usual(), lines}})
	}
	for i := range 64 {
		e := link(i>>4&1, i>>5)
		for j, change := range []func(*api.Edge){weight(7), length(8), text("x"), at(1, 0)} {
			if i>>j&1 == 1 {
				change(&e)
			}
		}
		g := copiedGraph(both)
		g.Name, g.Edges = "g", []api.Edge{link(0, 1), e, e}
		checkErrors(t, "attributes of an edge", g, usual(), api.OK, api.OK)
	}
}

// P13.1: the ports of a node have a text of at most 32 bytes.
func TestPorts(t *testing.T) {
	port := func(name string, side int) api.Port { return api.Port{Name: name, Side: side} }
	x, y := strings.Repeat("x", 16), strings.Repeat("y", 16)
	for _, c := range []struct {
		ports []api.Port
		text  string
		want  api.Errno
	}{
		{[]api.Port{port(x, api.Bottom)}, x + " bottom", api.OK},
		{[]api.Port{port(x, api.Bottom), port("ab", api.Top)}, x + " bottom, ab top", api.OK},
		{[]api.Port{port(x, api.Bottom), port("abc", api.Top)}, x + " bottom, abc top", api.OK},
		{[]api.Port{port(x, api.Bottom), port("abcd", api.Top)}, "", api.ErrLimit},
		{[]api.Port{port(x, api.Bottom), port("ab", api.Left)}, x + " bottom, ab left", api.OK},
		{[]api.Port{port(x, api.Bottom), port("ab", api.Right)}, "", api.ErrLimit},
		{[]api.Port{port(x, api.Top), port(y, api.Top)}, "", api.ErrLimit},
		{[]api.Port{port("a", 0), port("b", 0), port("c", 0), port("d", 0)}, "a top, b top, c top, d top", api.OK},
		{[]api.Port{port("a", 3), port("b", 1), port("c", 3), port("d", 1)}, "a left, b right, c left, d right", api.OK},
		{[]api.Port{port("a", 1), port("b", 1), port("c", 1), port("d", 3)}, "", api.ErrLimit},
		{[]api.Port{port("a", 0), port("b", 0), port("c", 0), port("d", 0), port("e", 0)}, "", api.ErrLimit},
		{[]api.Port{port("a", 0), port("b", 0), port("c", 0), port("d", 0), port("e", 0), port("f", 0), port("g", 0), port("h", 0)}, "", api.ErrLimit},
	} {
		for in := range 5 {
			g := nested([]int{-1, 0, -1}, []int{-1, 0, 1, 2, -1})
			g.Nodes[in].Ports = c.ports
			checkErrors(t, c.text, g, usual(), c.want, c.want)
			if v, err := export.Tree(nodes(g.Nodes[0]), usual()); in == 0 && err == api.OK {
				if want := []api.Attr{{Key: "ports", Val: c.text}}; !slices.Equal(v.Body[0].Attrs, want) {
					t.Errorf("ports %q: %+v", c.text, v.Body)
				}
			}
		}
	}
}

// P13.1: nodes and clusters in the natural order, where clusters without nodes
// come as early as they may.
func TestBlocks(t *testing.T) {
	lines := func(parents, in []int, text string) written {
		return written{nested(parents, in), usual(), strings.Split(text, "\n")}
	}
	checkWritten(t, []written{
		lines([]int{-1}, nil, "cluster k0 {\n}"),
		lines([]int{-1}, []int{-1}, "cluster k0 {\n}\nn0;"),
		lines([]int{-1}, []int{-1, 0}, "n0;\ncluster k0 {\n    n1;\n}"),
		lines([]int{-1}, []int{-1, 0, -1}, "n0;\ncluster k0 {\n    n1;\n}\nn2;"),
		lines([]int{-1, -1}, []int{-1, 0, -1}, "n0;\ncluster k0 {\n    n1;\n}\ncluster k1 {\n}\nn2;"),
		lines([]int{-1, -1}, []int{-1, 1, -1}, "cluster k0 {\n}\nn0;\ncluster k1 {\n    n1;\n}\nn2;"),
		lines([]int{-1, 0}, []int{-1, 0, -1}, "n0;\ncluster k0 {\n    cluster k1 {\n    }\n    n1;\n}\nn2;"),
		lines([]int{-1, 0}, []int{-1, 1, -1}, "n0;\ncluster k0 {\n    cluster k1 {\n        n1;\n    }\n}\nn2;"),
		lines([]int{-1, 0}, []int{0, 1, 0}, "cluster k0 {\n    n0;\n    cluster k1 {\n        n1;\n    }\n    n2;\n}"),
		lines([]int{-1, 0}, []int{1, 0, -1}, "cluster k0 {\n    cluster k1 {\n        n0;\n    }\n    n1;\n}\nn2;"),
		lines([]int{-1, 0}, []int{-1, -1}, "cluster k0 {\n    cluster k1 {\n    }\n}\nn0;\nn1;"),
		lines([]int{-1, 0, 0, -1}, []int{0, 2}, "cluster k0 {\n    cluster k1 {\n    }\n    n0;\n    cluster k2 {\n        n1;\n    }\n}\ncluster k3 {\n}"),
		lines([]int{-1, 0, -1, 2}, []int{0, -1, 2, 3, 2, -1}, "cluster k0 {\n    cluster k1 {\n    }\n    n0;\n}\nn1;\ncluster k2 {\n    n2;\n    cluster k3 {\n        n3;\n    }\n    n4;\n}\nn5;"),
		lines([]int{-1, 0, 1, 0, -1}, []int{2, 3}, "cluster k0 {\n    cluster k1 {\n        cluster k2 {\n            n0;\n        }\n    }\n    cluster k3 {\n        n1;\n    }\n}\ncluster k4 {\n}"),
		lines([]int{-1, 0, 1}, []int{0, 0, 2, 1, 0}, "cluster k0 {\n    n0;\n    n1;\n    cluster k1 {\n        cluster k2 {\n            n2;\n        }\n        n3;\n    }\n    n4;\n}"),
		lines([]int{-1, 0, 1, 2, 3, 4}, []int{5, 0}, "cluster k0 {\n    cluster k1 {\n        cluster k2 {\n            cluster k3 {\n                cluster k4 {\n                    cluster k5 {\n                        n0;\n                    }\n                }\n            }\n        }\n    }\n    n1;\n}"),
	})
	for _, c := range []struct{ parents, in []int }{
		{[]int{-1}, []int{0, -1, 0}},
		{[]int{-1, -1}, []int{1, 0}},
		{[]int{-1, -1}, []int{0, 1, 0}},
		{[]int{-1, -1, 0}, []int{0, 1, 2}},
		{[]int{-1, -1, 0}, []int{0, 1}},
		{[]int{-1, -1, 0}, []int{1, 2}},
		{[]int{-1, 0, 0}, []int{2, 1}},
		{[]int{-1, 0, -1}, []int{1, 2, 0}},
		{[]int{-1, 0, 1}, []int{0, 2, -1, 1}},
		{[]int{-1, 0, 1}, []int{0, 2, 0, 1}},
		{[]int{-1, 0, 1}, []int{2, 1, 2}},
		// The last cluster has no nodes, but lies in one that ends before the one
		// between the two begins.
		{[]int{-1, -1, 0}, nil},
		{[]int{-1, -1, 0}, []int{0, -1}},
	} {
		checkErrors(t, "nested clusters", nested(c.parents, c.in), usual(), api.ErrArg, api.ErrArg)
	}
}

// tuples calls visit with all lists of n numbers from -1 to most(i), for the
// index i of the number.
func tuples(n int, most func(i int) int, visit func(l []int)) {
	l := make([]int, n)
	var fill func(i int)
	fill = func(i int) {
		if i == n {
			visit(l)
			return
		}
		for l[i] = -1; l[i] <= most(i); l[i]++ {
			fill(i + 1)
		}
	}
	fill(0)
}

// P13.1, P13.3: all graphs with few nodes and clusters.
func TestSmallGraphs(t *testing.T) {
	errors := map[api.Errno]int{}
	for _, size := range [][2]int{{0, 0}, {4, 0}, {4, 1}, {7, 1}, {4, 2}, {5, 2}, {4, 3}, {0, 4}, {1, 4}, {3, 4}} {
		tuples(size[1], func(i int) int { return i - 1 }, func(parents []int) {
			tuples(size[0], func(int) int { return size[1] - 1 }, func(in []int) {
				ofTree, _ := check(t, nested(parents, in), usual())
				errors[ofTree]++
			})
		})
	}
	if errors[api.OK] < 500 || errors[api.ErrArg] < 500 {
		t.Errorf("%d graphs, %d errors", errors[api.OK], errors[api.ErrArg])
	}
}

// full returns a graph with all that graphs may have.
func full() api.Graph {
	p, q := api.Port{Name: "p", Side: api.Right}, api.Port{Name: "q", Side: api.Bottom}
	g := nested([]int{-1, 0, -1}, []int{-1, 0, 1, 1, 2, -1})
	g.Directed = true
	g.Nodes[0].Ports = []api.Port{p, q}
	g.Nodes[2].Ports = []api.Port{q}
	g.Nodes[1].Label, g.Nodes[1].W, g.Nodes[1].H = "x y", 1500, 2500
	g.Edges = []api.Edge{with(link(0, 2), at(1, 0), text("z")), link(3, 3), with(link(5, 0), at(-1, 0), weight(2), length(3))}
	return g
}

// changed returns the options after the one at i is set to val.
func changed(i, val int) api.Options {
	o := usual()
	*[]*int{&o.Mode, &o.NodeSep, &o.RankSep, &o.Margin, &o.Rounds}[i] = val
	return o
}

// P13.1, P13.2: options at and beyond their limits.
func TestInvalidOptions(t *testing.T) {
	for i, most := range []int{4, maxSize, maxSize, maxSize, 100} {
		for _, val := range []int{0, 1, most - 1, most} {
			checkErrors(t, "valid options", full(), changed(i, val), api.OK, api.OK)
		}
		for _, val := range []int{-1, most + 1, math.MinInt, math.MaxInt, -1000, 1 << 32} {
			checkErrors(t, "invalid options", full(), changed(i, val), api.ErrArg, api.ErrArg)
			checkErrors(t, "invalid options", nodes(), changed(i, val), api.ErrArg, api.ErrArg)
		}
	}
}

// badGraphs returns graphs that are not valid, for each reason that chapter 11
// names.
func badGraphs() []api.Graph {
	change := func(change func(g *api.Graph)) api.Graph {
		g := full()
		change(&g)
		return g
	}
	list := []api.Graph{
		{},
		change(func(g *api.Graph) { g.Name = "" }),
		change(func(g *api.Graph) { g.Name = "graph" }),
		change(func(g *api.Graph) { g.Name = strings.Repeat("g", 17) }),
		change(func(g *api.Graph) { g.Nodes[3].Name = "1" }),
		change(func(g *api.Graph) { g.Nodes[3].Name = "" }),
		change(func(g *api.Graph) { g.Nodes[3].Name = "n0" }),
		change(func(g *api.Graph) { g.Nodes[3].Name = "k2" }),
		change(func(g *api.Graph) { g.Nodes[3].Label = strings.Repeat("x", 33) }),
		change(func(g *api.Graph) { g.Nodes[3].Label = "x\n" }),
		change(func(g *api.Graph) { g.Nodes[3].Label = "\x7f" }),
		change(func(g *api.Graph) { g.Nodes[3].W = 0 }),
		change(func(g *api.Graph) { g.Nodes[3].H = maxSize + 1 }),
		change(func(g *api.Graph) { g.Nodes[3].Cluster = -2 }),
		change(func(g *api.Graph) { g.Nodes[3].Cluster = 3 }),
		change(func(g *api.Graph) { g.Nodes[3].Ports = []api.Port{{Name: "p", Side: 4}} }),
		change(func(g *api.Graph) { g.Nodes[3].Ports = []api.Port{{Name: "p", Side: -1}} }),
		change(func(g *api.Graph) { g.Nodes[3].Ports = []api.Port{{Name: "node"}} }),
		change(func(g *api.Graph) { g.Nodes[3].Ports = []api.Port{{Name: "p"}, {Name: "p", Side: 1}} }),
		change(func(g *api.Graph) { g.Nodes[3].Ports = make([]api.Port, 9) }),
		change(func(g *api.Graph) { g.Clusters[1].Name = "set" }),
		change(func(g *api.Graph) { g.Clusters[1].Name = "k0" }),
		change(func(g *api.Graph) { g.Clusters[1].Parent = -2 }),
		change(func(g *api.Graph) { g.Clusters[1].Parent = 1 }),
		change(func(g *api.Graph) { g.Clusters[1].Parent = 2 }),
		change(func(g *api.Graph) { g.Edges[1].From = -1 }),
		change(func(g *api.Graph) { g.Edges[1].To = 6 }),
		change(func(g *api.Graph) { g.Edges[1].FromPort = 0 }),
		change(func(g *api.Graph) { g.Edges[0].ToPort = 1 }),
		change(func(g *api.Graph) { g.Edges[0].FromPort = -2 }),
		change(func(g *api.Graph) { g.Edges[1].Label = strings.Repeat("x", 33) }),
		change(func(g *api.Graph) { g.Edges[1].Label = "\xff" }),
		change(func(g *api.Graph) { g.Edges[1].Weight = 0 }),
		change(func(g *api.Graph) { g.Edges[1].Weight = 1001 }),
		change(func(g *api.Graph) { g.Edges[1].Len = 0 }),
		change(func(g *api.Graph) { g.Edges[1].Len = 65 }),
		change(func(g *api.Graph) { g.Edges = make([]api.Edge, 1<<14) }),
		change(func(g *api.Graph) { g.Nodes = make([]api.Node, 1<<14) }),
		change(func(g *api.Graph) { g.Clusters = make([]api.Cluster, 1<<14) }),
		nested([]int{-1, 0, 1, 2, 3, 4, 5}, []int{6}),
		nested(slices.Repeat([]int{-1}, 17), nil),
		nested(nil, slices.Repeat([]int{-1}, 65)),
	}
	return list
}

// P13.1, P13.2: graphs that are not valid lead to ErrArg, whatever is wrong.
func TestInvalidGraphs(t *testing.T) {
	checkErrors(t, "valid graph", full(), usual(), api.OK, api.OK)
	for i, g := range badGraphs() {
		what := "graph " + strconv.Itoa(i)
		checkErrors(t, what, g, usual(), api.ErrArg, api.ErrArg)
		checkErrors(t, what, g, changed(4, 101), api.ErrArg, api.ErrArg)
	}
}

// P13.1, P13.2: the order of the errors.
func TestErrorOrder(t *testing.T) {
	long := make([]api.Port, 8)
	for i := range long {
		long[i].Name = "p" + strconv.Itoa(i)
	}
	heavy := func(g api.Graph) api.Graph {
		for range 256 {
			g.Edges = append(g.Edges, with(link(0, 0), text(strings.Repeat(`"`, 32)), weight(1000)))
		}
		return g
	}
	for i := range 32 {
		g, o := nested([]int{-1}, []int{0, 0, -1}), usual()
		want := [2]api.Errno{}
		if i&16 != 0 {
			g = heavy(g)
			want[1] = api.ErrLimit
		}
		if i&8 != 0 {
			g.Nodes[1].Ports = long
			want = [2]api.Errno{api.ErrLimit, api.ErrLimit}
		}
		if i&4 != 0 {
			g.Nodes[1].Cluster, g.Nodes[2].Cluster = -1, 0
			want = [2]api.Errno{api.ErrArg, api.ErrArg}
		}
		if i&2 != 0 {
			o.Rounds = -1
			want = [2]api.Errno{api.ErrArg, api.ErrArg}
		}
		if i&1 != 0 {
			g.Nodes[2].W = 0
			want = [2]api.Errno{api.ErrArg, api.ErrArg}
		}
		checkErrors(t, "errors "+strconv.Itoa(i), g, o, want[0], want[1])
	}
}

// P13.2: texts of about as many bytes as a source may have.
func TestLongTexts(t *testing.T) {
	g := nodes(plain("a", -1))
	for range 256 {
		g.Edges = append(g.Edges, with(link(0, 0), text("x y"), weight(1000)))
	}
	x, _ := export.Tree(g, usual())
	missing := maxSource - len(printer.Print(x))
	for i := range g.Edges {
		more := min(missing, 29)
		g.Edges[i].Label += strings.Repeat("z", more)
		missing -= more
	}
	if s, err := export.Text(g, usual()); err != api.OK || len(s) != maxSource {
		t.Errorf("text of %d bytes: %d", len(s), err)
	}
	checkErrors(t, "longest text", g, usual(), api.OK, api.OK)
	for more := range 4 {
		h := copiedGraph(g)
		h.Name += strings.Repeat("g", more)
		want := api.OK
		if more > 0 {
			want = api.ErrLimit
		}
		checkErrors(t, "longer text", h, usual(), api.OK, want)
	}
	shorter := copiedGraph(g)
	shorter.Edges[0].Label = shorter.Edges[0].Label[1:]
	checkErrors(t, "shorter text", shorter, usual(), api.OK, api.OK)
	checkErrors(t, "shorter text with an option", shorter, changed(4, 9), api.OK, api.ErrLimit)
}

// P13.1, P13.3: graphs with as many nodes, edges, clusters and options as there
// may be.
func TestLargeGraphs(t *testing.T) {
	g := api.Graph{Name: "g", Directed: true}
	for c := range 16 {
		g.Clusters = append(g.Clusters, api.Cluster{Name: "k" + strconv.Itoa(c), Parent: c%6 - 1 + c - c%6})
		if c%6 == 0 {
			g.Clusters[c].Parent = -1
		}
	}
	for v := range 64 {
		g.Nodes = append(g.Nodes, with(plain("n"+strconv.Itoa(v), v/4), width(v+1), height(maxSize-v), label("x y"), ports(api.Port{Name: "p"})))
	}
	for e := range 256 {
		g.Edges = append(g.Edges, with(link(e%64, e*7%64), at(e%2-1, e/2%2-1)))
	}
	o := api.Options{Mode: api.Straight, NodeSep: 1, RankSep: 2, Margin: 3, Rounds: 4}
	checkErrors(t, "most statements", g, o, api.OK, api.OK)
	if x, err := export.Tree(g, o); err != api.OK || tree.Count(x) != 5+64+16+256 || tree.Depth(x) != 6 {
		t.Errorf("%d statements, depth %d, %d", tree.Count(x), tree.Depth(x), err)
	}
	for i := range g.Edges {
		g.Edges[i].Label, g.Edges[i].Weight, g.Edges[i].Len = strings.Repeat(`\`, 32), 1000, 64
	}
	checkErrors(t, "most text", g, o, api.OK, api.ErrLimit)
	g.Nodes[63].Cluster = 0
	checkErrors(t, "last node elsewhere", g, o, api.ErrArg, api.ErrArg)
}

// maker makes random graphs and descriptions.
type maker struct {
	*rand.Rand
}

func pick[T any](m maker, l ...T) T {
	return l[m.IntN(len(l))]
}

// label returns a random label, often the usual one.
func (m maker) label(usual string) string {
	return pick(m, usual, usual, "", "x", "x y", "12", "1.50", "edge", `a"b\c`, "p top")
}

func (m maker) ports() []api.Port {
	l := []api.Port{}
	for i := range m.IntN(5) {
		l = append(l, api.Port{Name: pick(m, "p", "in", "q_") + strconv.Itoa(i), Side: m.IntN(4)})
	}
	return l
}

func (m maker) node(name string, cluster int) api.Node {
	return api.Node{
		Name: name, Label: m.label(name), Cluster: cluster, Ports: pick(m, nil, m.ports()),
		W: pick(m, 20000, 1, 2000, 10000, 1+m.IntN(maxSize)), H: pick(m, 10000, 20000, maxSize, 1+m.IntN(maxSize)),
	}
}

func (m maker) edge(g api.Graph) api.Edge {
	e := api.Edge{From: m.IntN(len(g.Nodes)), To: m.IntN(len(g.Nodes)), Label: m.label(""), Weight: pick(m, 1, 1, 2, 1000), Len: pick(m, 1, 1, 64, 10)}
	e.FromPort = m.IntN(len(g.Nodes[e.From].Ports)+1) - 1
	e.ToPort = m.IntN(len(g.Nodes[e.To].Ports)+1) - 1
	return e
}

func (m maker) options() api.Options {
	size := func(preset int) int { return pick(m, preset, preset, 0, maxSize, m.IntN(maxSize+1)) }
	return api.Options{Mode: m.IntN(5), NodeSep: size(10000), RankSep: size(20000), Margin: size(5000), Rounds: pick(m, 8, m.IntN(101))}
}

// nesting returns parents and the clusters of nodes, mostly in the natural order.
func (m maker) nesting(groups, count int) (parents, in []int) {
	at := -1
	up := func() {
		for at != -1 && m.IntN(2) == 0 {
			at = parents[at]
		}
	}
	for len(parents) < groups || len(in) < count {
		up()
		if len(parents) < groups && (len(in) == count || m.IntN(3) == 0) {
			parents = append(parents, at)
			at = len(parents) - 1
		} else if len(in) < count {
			in = append(in, at)
		}
	}
	return parents, in
}

func (m maker) graph() api.Graph {
	groups := m.IntN(5)
	parents, in := m.nesting(groups, m.IntN(9))
	g := nested(parents, in)
	g.Name, g.Directed = pick(m, "g", "k1", "_"), m.IntN(2) == 0
	for i, n := range g.Nodes {
		g.Nodes[i] = m.node(n.Name, n.Cluster)
		if m.IntN(30) == 0 {
			g.Nodes[i].Cluster = m.IntN(groups+1) - 1
		}
	}
	for range m.IntN(6) {
		if len(g.Nodes) > 0 {
			g.Edges = append(g.Edges, m.edge(g))
		}
	}
	return g
}

// P13.1, P13.2, P13.3: random graphs.
func TestRandomGraphs(t *testing.T) {
	m := maker{rand.New(rand.NewPCG(13, 1))}
	errors := map[api.Errno]int{}
	for range 20000 {
		ofTree, _ := check(t, m.graph(), m.options())
		errors[ofTree]++
	}
	for _, err := range []api.Errno{api.OK, api.ErrArg, api.ErrLimit} {
		if errors[err] < 300 {
			t.Errorf("error %d: %d of the graphs", err, errors[err])
		}
	}
}

// P13.1, P13.2: random graphs of which some are not valid.
func TestSpoiledGraphs(t *testing.T) {
	m := maker{rand.New(rand.NewPCG(13, 2))}
	for range 10000 {
		g, o := m.graph(), m.options()
		word, n := pick(m, "", "a", "k0", "n0", "set", "x y", "\t"), pick(m, -2, -1, 0, 1, 2, 5, 1001, maxSize+1)
		if len(g.Nodes) > 0 {
			v := &g.Nodes[m.IntN(len(g.Nodes))]
			pick(m, func() { v.Name = word }, func() { v.Label = word }, func() { v.W = n }, func() { v.Cluster = n }, func() { v.Ports = append(v.Ports, api.Port{Name: word, Side: n}) })()
		}
		if len(g.Clusters) > 0 {
			c := &g.Clusters[m.IntN(len(g.Clusters))]
			pick(m, func() {}, func() { c.Name = word }, func() { c.Parent = n })()
		}
		if len(g.Edges) > 0 {
			e := &g.Edges[m.IntN(len(g.Edges))]
			pick(m, func() {}, func() { e.From = n }, func() { e.ToPort = n }, func() { e.Label = word }, func() { e.Len = n })()
		}
		check(t, g, pick(m, o, with(o, func(o *api.Options) { o.Rounds = n })))
	}
}

// body returns a block in which each node is declared before it is mentioned
// otherwise; known are the nodes that are declared before.
func (m maker) body(level int, known *[]string, groups *int) []api.Stmt {
	body := []api.Stmt{}
	for range 1 + m.IntN(5) {
		switch k := m.IntN(8); {
		case k < 3:
			*known = append(*known, "n"+strconv.Itoa(len(*known)))
			fallthrough
		case k < 4 && len(*known) > 0:
			name := (*known)[len(*known)-1]
			if k == 3 {
				name = pick(m, *known...)
			}
			l := pick(m, nil, []api.Attr{{Key: "width", Val: "2"}}, []api.Attr{{Key: "ports", Val: "p top"}, {Key: "label", Val: "x"}})
			body = append(body, api.Stmt{Kind: api.SNode, Name: name, Attrs: l})
		case k < 5 && len(*known) > 0:
			refs := []api.Ref{{Node: pick(m, *known...)}, {Node: pick(m, *known...)}, {Node: pick(m, *known...)}}
			body = append(body, api.Stmt{Kind: api.SEdge, Refs: refs[m.IntN(2):]})
		case k < 6:
			body = append(body, api.Stmt{Kind: api.SDefault, Name: "node", Attrs: []api.Attr{{Key: "height", Val: pick(m, "10", "3.5")}}})
		case level < 4:
			*groups++
			name := "k" + strconv.Itoa(*groups)
			body = append(body, api.Stmt{Kind: api.SCluster, Name: name, Body: m.body(level+1, known, groups)})
		}
	}
	return body
}

// hasEmpty reports whether g has a cluster without nodes.
func hasEmpty(g api.Graph) bool {
	for c := range g.Clusters {
		if len(graph.Members(g, c)) == 0 {
			return true
		}
	}
	return false
}

// P13.4: graphs of descriptions that declare all nodes before they mention them
// otherwise, and have no cluster without nodes.
func TestDescriptions(t *testing.T) {
	m := maker{rand.New(rand.NewPCG(13, 3))}
	count := 0
	for range 20000 {
		x, groups := api.Tree{Name: "g"}, 0
		x.Body = m.body(0, &[]string{}, &groups)
		g, err := normalize.Build(x)
		if err != api.OK || hasEmpty(g) {
			continue
		}
		count++
		o := m.options()
		y, err := export.Tree(g, o)
		if err != api.OK {
			t.Errorf("%+v: Tree(%+v) = %d", x, g, err)
		}
		check(t, g, o)
		again, err := normalize.Build(y)
		if z, e := export.Tree(again, o); err != api.OK || e != api.OK || !sameTree(y, z) {
			t.Errorf("%+v: %+v, then %+v, %d, %d", x, y, z, err, e)
		}
	}
	if count < 2000 {
		t.Errorf("%d descriptions", count)
	}
}

// P13.1, P13.4: descriptions that mention nodes in edges first, or have clusters
// without nodes, and what is written for them.
func TestOtherDescriptions(t *testing.T) {
	for source, want := range map[string]string{
		"graph g { a -- b; cluster c { d -- a; a; } d; }":             "graph g { a; b; cluster c { d; } a -- b; d -- a; }",
		"graph g { cluster c { b -- a; } cluster d { a -- e; } }":     "graph g { cluster c { b; a; } cluster d { e; } b -- a; a -- e; }",
		"graph g { a; cluster c {} b; }":                              "graph g { cluster c {} a; b; }",
		"graph g { cluster c { a; cluster d {} } cluster e {} b; }":   "graph g { cluster c { cluster d {} a; } cluster e {} b; }",
		"graph g { cluster c { a; } cluster d { b -- a; } c1; a; }":   "graph g { cluster c { a; } cluster d { b; } c1; b -- a; }",
		"graph g { a; cluster c { cluster d { a; } } b -- c1 -- a;}":  "graph g { cluster c { cluster d {} } a; b; c1; b -- c1; c1 -- a; }",
		"graph g { a:p -- b; a [ports=\"q right, p left\"]; }":        "graph g { a [ports=\"q right, p left\"]; b; a:p -- b; }",
		"graph g { edge [len=2]; a -- b -- a; node [width=3]; b; c;}": "graph g { a; b; c [width=3]; a -- b [len=2]; b -- a [len=2]; }",
	} {
		g, err := normalize.Build(read(t, source))
		if err != api.OK {
			t.Errorf("%s: Build = %d", source, err)
		}
		if x, err := export.Tree(g, usual()); err != api.OK || !sameTree(x, read(t, want)) {
			t.Errorf("%s: Tree = %+v, %d, want %s", source, x, err, want)
		}
		check(t, g, usual())
	}
}

// 0.4, 0.8: arguments are not changed, and elements beyond the length of a slice
// are neither used nor changed.
func TestArguments(t *testing.T) {
	g := full()
	for i, n := range g.Nodes {
		g.Nodes[i].Ports = append(slices.Clone(n.Ports), api.Port{Name: "z", Side: 9})[:len(n.Ports)]
	}
	g.Nodes = append(g.Nodes, plain("n0", 9), plain("z", 0))[:len(g.Nodes)]
	g.Edges = append(g.Edges, link(9, 9), link(0, 0))[:len(g.Edges)]
	g.Clusters = append(g.Clusters, api.Cluster{Name: "k0", Parent: 9}, api.Cluster{Name: "z", Parent: -1})[:len(g.Clusters)]
	whole := func() api.Graph {
		h := g
		h.Nodes, h.Edges, h.Clusters = g.Nodes[:len(g.Nodes)+2], g.Edges[:len(g.Edges)+2], g.Clusters[:len(g.Clusters)+2]
		h = copiedGraph(h)
		for i, n := range g.Nodes {
			h.Nodes[i].Ports = slices.Clone(n.Ports[:len(n.Ports)+1])
		}
		return h
	}
	before := whole()
	x, err := export.Tree(g, usual())
	if y, _ := export.Tree(full(), usual()); err != api.OK || !sameTree(x, y) {
		t.Errorf("Tree = %+v, %d, want %+v", x, err, y)
	}
	s, err := export.Text(g, usual())
	if u, _ := export.Text(full(), usual()); err != api.OK || s != u {
		t.Errorf("Text = %s, %d, want %s", s, err, u)
	}
	check(t, g, usual())
	if !reflect.DeepEqual(before, whole()) {
		t.Errorf("%+v was changed to %+v", before, whole())
	}
}

// spoilBody changes all elements of all lists of the body.
func spoilBody(body []api.Stmt) {
	for i := range body {
		s := &body[i]
		spoilBody(s.Body)
		clear(s.Refs)
		clear(s.Attrs)
	}
	clear(body)
}

// checkAppending checks that appending to a list of statements, at any level,
// changes nothing else in x.
func checkAppending(t *testing.T, x api.Tree, body []api.Stmt, before api.Tree) {
	t.Helper()
	_ = append(append(body, api.Stmt{Kind: api.SNode, Name: "z"}), body...)
	if !reflect.DeepEqual(before, copiedTree(x)) {
		t.Errorf("%+v is now %+v", before, x)
	}
	if cap(body) != len(body) {
		t.Errorf("%+v: capacity for %d statements", body, cap(body))
	}
	for _, s := range body {
		_ = append(s.Attrs, api.Attr{Key: "z", Val: "z"})
		_ = append(s.Refs, api.Ref{Node: "z"})
		checkAppending(t, x, s.Body, before)
	}
}

// 0.4, 0.9: two calls return equal results, and no two results or parts of one
// share memory.
func TestResults(t *testing.T) {
	g, o := full(), api.Options{Mode: api.Tidy, NodeSep: 1, RankSep: 2, Margin: 3, Rounds: 4}
	x, err := export.Tree(g, o)
	y, again := export.Tree(g, o)
	if err != api.OK || again != api.OK || !sameTree(x, y) || tree.Count(x) != 5+6+3+3 {
		t.Fatalf("Tree = %+v, %d, then %+v, %d", x, err, y, again)
	}
	want, before := copiedTree(y), copiedGraph(g)
	checkAppending(t, x, x.Body, want)
	spoilBody(x.Body)
	if !sameTree(y, want) {
		t.Errorf("the second tree is now %+v", y)
	}
	if !reflect.DeepEqual(before, copiedGraph(g)) {
		t.Errorf("the graph is now %+v", g)
	}
	if z, err := export.Tree(g, o); err != api.OK || !sameTree(z, want) {
		t.Errorf("the third tree is %+v, %d", z, err)
	}
}
