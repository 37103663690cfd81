package normalize_test

import (
	"math"
	"math/rand/v2"
	"reflect"
	"slices"
	"strconv"
	"strings"
	"testing"

	"layout/api"
	"layout/attrs"
	"layout/graph"
	"layout/normalize"
	"layout/parser"
	"layout/tree"
)

const maxSize = 1 << 20

func of(body ...api.Stmt) api.Tree {
	return api.Tree{Name: "g", Body: body}
}

func attr(key, val string) api.Attr {
	return api.Attr{Key: key, Val: val}
}

func node(name string, l ...api.Attr) api.Stmt {
	return api.Stmt{Kind: api.SNode, Name: name, Attrs: l}
}

// ends returns an edge statement with refs like a and a:p.
func ends(texts ...string) api.Stmt {
	refs := []api.Ref{}
	for _, text := range texts {
		n, p, _ := strings.Cut(text, ":")
		refs = append(refs, api.Ref{Node: n, Port: p})
	}
	return api.Stmt{Kind: api.SEdge, Refs: refs}
}

// having returns s with the attributes l.
func having(s api.Stmt, l ...api.Attr) api.Stmt {
	s.Attrs = l
	return s
}

func defaults(name string, l ...api.Attr) api.Stmt {
	return api.Stmt{Kind: api.SDefault, Name: name, Attrs: l}
}

func set(name, val string) api.Stmt {
	return api.Stmt{Kind: api.SSet, Name: name, Attrs: []api.Attr{attr("", val)}}
}

func cluster(name string, body ...api.Stmt) api.Stmt {
	return api.Stmt{Kind: api.SCluster, Name: name, Body: body}
}

// read returns the tree of a description.
func read(t *testing.T, source string) api.Tree {
	t.Helper()
	x, line, err := parser.Parse(source)
	if err != api.OK {
		t.Fatalf("%s: error %d in line %d", source, err, line)
	}
	return x
}

// plain returns a node that has all defaults of the chapters.
func plain(name string, cluster int) api.Node {
	return api.Node{Name: name, Label: name, W: 20000, H: 10000, Cluster: cluster}
}

// link returns an edge that has all defaults of the chapters.
func link(from, to int) api.Edge {
	return api.Edge{From: from, To: to, FromPort: -1, ToPort: -1, Weight: 1, Len: 1}
}

// with returns x after the changes.
func with[T any](x T, changes ...func(x *T)) T {
	for _, change := range changes {
		change(&x)
	}
	return x
}

// copiedGraph returns a graph that is equal to g, shares no memory with it, and
// has no nil slices, so that reflect.DeepEqual compares it with others.
func copiedGraph(g api.Graph) api.Graph {
	g.Nodes = append([]api.Node{}, g.Nodes...)
	for i := range g.Nodes {
		g.Nodes[i].Ports = append([]api.Port{}, g.Nodes[i].Ports...)
	}
	g.Edges = append([]api.Edge{}, g.Edges...)
	g.Clusters = append([]api.Cluster{}, g.Clusters...)
	return g
}

func sameGraph(a, b api.Graph) bool {
	return reflect.DeepEqual(copiedGraph(a), copiedGraph(b))
}

// copiedTree returns a tree that is equal to t, shares no memory with it, and has
// no nil slices.
func copiedTree(t api.Tree) api.Tree {
	t.Body = copiedBody(t.Body)
	return t
}

func copiedBody(body []api.Stmt) []api.Stmt {
	list := []api.Stmt{}
	for _, s := range body {
		s.Refs, s.Attrs = append([]api.Ref{}, s.Refs...), append([]api.Attr{}, s.Attrs...)
		s.Body = copiedBody(s.Body)
		list = append(list, s)
	}
	return list
}

// placed is a statement with the indices of the clusters that contain it, in
// preorder, from the outside.
type placed struct {
	api.Stmt
	inside []int
}

// block returns the cluster whose block contains p, or -1.
func (p placed) block() int {
	return append([]int{-1}, p.inside...)[len(p.inside)]
}

// preorder returns the statements of t in preorder; it keeps a stack of those
// that are still to come.
func preorder(t api.Tree) []placed {
	list, stack, clusters := []placed{}, []placed{}, 0
	push := func(body []api.Stmt, inside []int) {
		for _, s := range slices.Backward(body) {
			stack = append(stack, placed{s, inside})
		}
	}
	push(t.Body, nil)
	for len(stack) > 0 {
		p := stack[len(stack)-1]
		stack = stack[:len(stack)-1]
		list = append(list, p)
		if p.Kind == api.SCluster {
			push(p.Body, append(slices.Clone(p.inside), clusters))
			clusters++
		}
	}
	return list
}

// mentions returns the names of the nodes that s mentions.
func mentions(s api.Stmt) []string {
	names := []string{}
	if s.Kind == api.SNode {
		names = append(names, s.Name)
	}
	for _, r := range s.Refs {
		names = append(names, r.Node)
	}
	return names
}

// hasCluster reports whether one of list is a cluster with the name.
func hasCluster(list []placed, name string) bool {
	return slices.ContainsFunc(list, func(p placed) bool { return p.Kind == api.SCluster && p.Name == name })
}

// hasMention reports whether one of list mentions a node with the name.
func hasMention(list []placed, name string) bool {
	return slices.ContainsFunc(list, func(p placed) bool { return slices.Contains(mentions(p.Stmt), name) })
}

// wantedErrors returns the errors of the statement i of a valid tree.
func wantedErrors(list []placed, i int) []api.Errno {
	errors, s := []api.Errno{}, list[i].Stmt
	for _, a := range s.Attrs {
		kind := s.Kind
		switch {
		case kind == api.SSet:
			a.Key = s.Name
		case kind == api.SDefault:
			kind = map[string]int{"node": api.SNode, "edge": api.SEdge}[s.Name]
		}
		errors = append(errors, attrs.Check(kind, a))
	}
	if s.Kind == api.SCluster && (hasCluster(list[:i], s.Name) || hasMention(list[:i], s.Name)) {
		errors = append(errors, api.ErrDup)
	}
	for _, name := range mentions(s) {
		if hasCluster(list[:i], name) {
			errors = append(errors, api.ErrDup)
		}
	}
	return slices.DeleteFunc(errors, func(err api.Errno) bool { return err == api.OK })
}

// wantedDefaults returns the attributes of all defaults that hold at the
// statement i for what name says; of those with the same key, the last one
// counts.
func wantedDefaults(list []placed, i int, name string) []api.Attr {
	l := []api.Attr{}
	for _, p := range list[:i] {
		holds := len(p.inside) <= len(list[i].inside) && slices.Equal(p.inside, list[i].inside[:len(p.inside)])
		if p.Kind == api.SDefault && p.Name == name && holds {
			l = append(l, p.Attrs...)
		}
	}
	return l
}

// last returns the value of the last attribute of l with the key, or usual.
func last(l []api.Attr, key, usual string) string {
	for _, a := range l {
		if a.Key == key {
			usual = a.Val
		}
	}
	return usual
}

// thousandths returns the value of a text that is a number.
func thousandths(text string) int {
	whole, decimals, _ := strings.Cut(text, ".")
	n, err := strconv.Atoi(whole + (decimals + "000")[:3])
	if err != nil {
		panic(err)
	}
	return n
}

// wantedNode returns the node with the name.
func wantedNode(list []placed, name string) api.Node {
	first := slices.IndexFunc(list, func(p placed) bool { return slices.Contains(mentions(p.Stmt), name) })
	l := wantedDefaults(list, first, "node")
	for _, p := range list {
		if p.Kind == api.SNode && p.Name == name {
			l = append(l, p.Attrs...)
		}
	}
	n := api.Node{Name: name, Cluster: list[first].block(), Label: last(l, "label", name)}
	n.W, n.H = thousandths(last(l, "width", "20")), thousandths(last(l, "height", "10"))
	for _, part := range strings.Split(last(l, "ports", ""), ", ") {
		if words := strings.Fields(part); len(words) == 2 {
			sides := map[string]int{"top": api.Top, "right": api.Right, "bottom": api.Bottom, "left": api.Left}
			n.Ports = append(n.Ports, api.Port{Name: words[0], Side: sides[words[1]]})
		}
	}
	return n
}

// wantedEnd returns the node of r and its port, and whether there is such a port.
func wantedEnd(nodes []api.Node, r api.Ref) (int, int, bool) {
	v := slices.IndexFunc(nodes, func(n api.Node) bool { return n.Name == r.Node })
	p := slices.IndexFunc(nodes[v].Ports, func(p api.Port) bool { return p.Name == r.Port })
	return v, p, r.Port == "" || p >= 0
}

// wantedGraph returns the graph of a valid tree whose statements have no errors,
// or its first error.
func wantedGraph(t api.Tree) (api.Graph, api.Errno) {
	g, list := api.Graph{Name: t.Name, Directed: t.Directed}, preorder(t)
	known := map[string]bool{}
	for _, p := range list {
		for _, name := range mentions(p.Stmt) {
			if !known[name] {
				g.Nodes = append(g.Nodes, wantedNode(list, name))
			}
			known[name] = true
		}
		if p.Kind == api.SCluster {
			g.Clusters = append(g.Clusters, api.Cluster{Name: p.Name, Parent: p.block()})
		}
	}
	for i, p := range list {
		l := append(wantedDefaults(list, i, "edge"), p.Attrs...)
		for j := 1; j < len(p.Refs); j++ {
			from, fromPort, okFrom := wantedEnd(g.Nodes, p.Refs[j-1])
			to, toPort, okTo := wantedEnd(g.Nodes, p.Refs[j])
			if !okFrom || !okTo {
				return api.Graph{}, api.ErrName
			}
			g.Edges = append(g.Edges, api.Edge{
				From: from, To: to, FromPort: fromPort, ToPort: toPort, Label: last(l, "label", ""),
				Weight: thousandths(last(l, "weight", "1")) / 1000, Len: thousandths(last(l, "len", "1")) / 1000,
			})
		}
	}
	if len(g.Nodes) > 64 || len(g.Edges) > 256 || len(g.Clusters) > 16 {
		return api.Graph{}, api.ErrLimit
	}
	return g, api.OK
}

// wantedBuild returns what the chapter says of Build.
func wantedBuild(t api.Tree) (api.Graph, api.Errno) {
	if err := tree.Valid(t); err != api.OK {
		return api.Graph{}, err
	}
	list := preorder(t)
	for i := range list {
		for _, err := range wantedErrors(list, i) {
			return api.Graph{}, err
		}
	}
	return wantedGraph(t)
}

// wantedOptions returns what the chapter says of Options.
func wantedOptions(t api.Tree) (api.Options, api.Errno) {
	if err := tree.Valid(t); err != api.OK {
		return api.Options{}, err
	}
	vals := map[string]string{"mode": "layered", "nodesep": "10", "ranksep": "20", "margin": "5", "rounds": "8"}
	for _, p := range preorder(t) {
		if p.Kind == api.SSet {
			if err := attrs.Check(api.SSet, attr(p.Name, p.Attrs[0].Val)); err != api.OK {
				return api.Options{}, err
			}
			vals[p.Name] = p.Attrs[0].Val
		}
	}
	return api.Options{
		Mode:    slices.Index([]string{"layered", "orthogonal", "straight", "tidy", "radial"}, vals["mode"]),
		NodeSep: thousandths(vals["nodesep"]), RankSep: thousandths(vals["ranksep"]),
		Margin: thousandths(vals["margin"]), Rounds: thousandths(vals["rounds"]) / 1000,
	}, api.OK
}

// withoutOptions returns body without the statements that set options.
func withoutOptions(body []api.Stmt) []api.Stmt {
	list := []api.Stmt{}
	for _, s := range body {
		if s.Kind != api.SSet {
			s.Body = withoutOptions(s.Body)
			list = append(list, s)
		}
	}
	return list
}

// checkGraph checks what the consequences say of a graph that Build returned.
func checkGraph(t *testing.T, x api.Tree, g api.Graph) {
	t.Helper()
	names, clusters := []string{}, []string{}
	for _, n := range g.Nodes {
		names = append(names, n.Name)
	}
	for _, c := range g.Clusters {
		clusters = append(clusters, c.Name)
	}
	if want := tree.Names(x); !slices.Equal(names, want) {
		t.Errorf("%+v: nodes %q, want %q", x, names, want)
	}
	if want := tree.Clusters(x); !slices.Equal(clusters, want) {
		t.Errorf("%+v: clusters %q, want %q", x, clusters, want)
	}
	if err := graph.Valid(g); err != api.OK {
		t.Errorf("%+v: the graph is not valid: %d", x, err)
	}
	x.Body = withoutOptions(x.Body)
	if h, err := normalize.Build(x); err != api.OK || !sameGraph(g, h) {
		t.Errorf("%+v: without options: %+v, %d, want %+v", x, h, err, g)
	}
}

// checkTree checks all that the chapter says of the tree, and returns the errors
// of Build and Options.
func checkTree(t *testing.T, x api.Tree) (build, options api.Errno) {
	t.Helper()
	before := copiedTree(x)
	wantGraph, wantErr := wantedBuild(x)
	g, build := normalize.Build(x)
	if build != wantErr || !sameGraph(g, wantGraph) {
		t.Errorf("Build(%+v) = %+v, %d, want %+v, %d", x, g, build, wantGraph, wantErr)
	}
	wantSet, wantErr := wantedOptions(x)
	o, options := normalize.Options(x)
	if options != wantErr || o != wantSet {
		t.Errorf("Options(%+v) = %+v, %d, want %+v, %d", x, o, options, wantSet, wantErr)
	}
	if build == api.OK {
		checkGraph(t, x, g)
	}
	if options == api.OK && !normalize.ValidOptions(o) {
		t.Errorf("%+v: the options are not valid: %+v", x, o)
	}
	if !reflect.DeepEqual(copiedTree(x), before) {
		t.Fatalf("%+v was changed, it is now %+v", before, x)
	}
	return build, options
}

// checkError checks that Build returns the error and nothing else.
func checkError(t *testing.T, what string, x api.Tree, want api.Errno) {
	t.Helper()
	if g, err := normalize.Build(x); err != want || want != api.OK && !sameGraph(g, api.Graph{}) {
		t.Errorf("%s: Build = %+v, %d, want %d", what, g, err, want)
	}
	checkTree(t, x)
}

// P12.1, P12.2: the chapter's examples.
func TestExamples(t *testing.T) {
	g, err := normalize.Build(read(t, "digraph g { a -> b; cluster c { a; d; } }"))
	want := api.Graph{
		Name: "g", Directed: true,
		Nodes:    []api.Node{plain("a", -1), plain("b", -1), plain("d", 0)},
		Edges:    []api.Edge{link(0, 1)},
		Clusters: []api.Cluster{{Name: "c", Parent: -1}},
	}
	if err != api.OK || !sameGraph(g, want) {
		t.Errorf("example 1: %+v, %d", g, err)
	}
	g, err = normalize.Build(read(t, "digraph g { node [width=2]; a; cluster c { node [width=3]; b; } d; }"))
	if err != api.OK || len(g.Nodes) != 3 || g.Nodes[0].W != 2000 || g.Nodes[1].W != 3000 || g.Nodes[2].W != 2000 {
		t.Errorf("example 2: %+v, %d", g, err)
	}
	g, err = normalize.Build(read(t, "graph g { a; cluster a {} }"))
	if err != api.ErrDup || !sameGraph(g, api.Graph{}) {
		t.Errorf("example 3: %+v, %d", g, err)
	}
	o, err := normalize.Options(read(t, "digraph g {}"))
	if err != api.OK || o != (api.Options{Mode: 0, NodeSep: 10000, RankSep: 20000, Margin: 5000, Rounds: 8}) {
		t.Errorf("example 4: %+v, %d", o, err)
	}
}

// built is a description with its graph, of which the name is g.
type built struct {
	source string
	want   api.Graph
}

func checkBuilt(t *testing.T, list []built) {
	t.Helper()
	for _, c := range list {
		x := read(t, c.source)
		c.want.Name = "g"
		if g, err := normalize.Build(x); err != api.OK || !sameGraph(g, c.want) {
			t.Errorf("%s: %+v, %d, want %+v", c.source, g, err, c.want)
		}
		checkTree(t, x)
	}
}

// P12.1: nodes, edges and clusters, their order, and the clusters in which they
// are.
func TestMentions(t *testing.T) {
	a, b, c := plain("a", -1), plain("b", -1), plain("c", -1)
	checkBuilt(t, []built{
		{"graph g {}", api.Graph{}},
		{"digraph g {}", api.Graph{Directed: true}},
		{"graph g { g; }", api.Graph{Nodes: []api.Node{plain("g", -1)}}},
		{"graph g { a; b; a; }", api.Graph{Nodes: []api.Node{a, b}}},
		{"graph g { b -- a; c; b; }", api.Graph{Nodes: []api.Node{b, a, c}, Edges: []api.Edge{link(0, 1)}}},
		{"graph g { a -- b -- a -- a; }", api.Graph{Nodes: []api.Node{a, b}, Edges: []api.Edge{link(0, 1), link(1, 0), link(0, 0)}}},
		{"digraph g { c; a -> b -> c; c -> a; a -> b; }", api.Graph{
			Directed: true, Nodes: []api.Node{c, a, b},
			Edges: []api.Edge{link(1, 2), link(2, 0), link(0, 1), link(1, 2)},
		}},
		{"graph g { cluster k {} }", api.Graph{Clusters: []api.Cluster{{Name: "k", Parent: -1}}}},
		{"graph g { cluster g { a; } a; }", api.Graph{Nodes: []api.Node{plain("a", 0)}, Clusters: []api.Cluster{{Name: "g", Parent: -1}}}},
		{"graph g { cluster k { a -- b; } cluster l { b -- c; } c; }", api.Graph{
			Nodes: []api.Node{plain("a", 0), plain("b", 0), plain("c", 1)}, Edges: []api.Edge{link(0, 1), link(1, 2)},
			Clusters: []api.Cluster{{Name: "k", Parent: -1}, {Name: "l", Parent: -1}},
		}},
		{"graph g { cluster k { a; cluster l { b; } c; } cluster m { d; cluster n {} cluster o { e; } f; a; } h; }", api.Graph{
			Nodes:    []api.Node{plain("a", 0), plain("b", 1), plain("c", 0), plain("d", 2), plain("e", 4), plain("f", 2), plain("h", -1)},
			Clusters: []api.Cluster{{Name: "k", Parent: -1}, {Name: "l", Parent: 0}, {Name: "m", Parent: -1}, {Name: "n", Parent: 2}, {Name: "o", Parent: 2}},
		}},
		{"graph g { cluster k { cluster l { cluster m {} } a; } cluster n { cluster o { b; } } c; }", api.Graph{
			Nodes:    []api.Node{plain("a", 0), plain("b", 4), c},
			Clusters: []api.Cluster{{Name: "k", Parent: -1}, {Name: "l", Parent: 0}, {Name: "m", Parent: 1}, {Name: "n", Parent: -1}, {Name: "o", Parent: 3}},
		}},
	})
}

func width(w int) func(n *api.Node)       { return func(n *api.Node) { n.W = w } }
func height(h int) func(n *api.Node)      { return func(n *api.Node) { n.H = h } }
func label(l string) func(n *api.Node)    { return func(n *api.Node) { n.Label = l } }
func ports(l ...api.Port) func(*api.Node) { return func(n *api.Node) { n.Ports = l } }
func weight(w int) func(e *api.Edge)      { return func(e *api.Edge) { e.Weight = w } }
func length(l int) func(e *api.Edge)      { return func(e *api.Edge) { e.Len = l } }
func text(l string) func(e *api.Edge)     { return func(e *api.Edge) { e.Label = l } }
func at(from, to int) func(e *api.Edge) {
	return func(e *api.Edge) { e.FromPort, e.ToPort = from, to }
}

// P12.1: the attributes of nodes, which come from the defaults where they are
// mentioned first and from all of their statements, and those of edges.
func TestAttributes(t *testing.T) {
	a, b, p := plain("a", -1), plain("b", -1), api.Port{Name: "p", Side: api.Left}
	q := api.Port{Name: "q", Side: api.Bottom}
	checkBuilt(t, []built{
		{`graph g { a [label="x y", width=0.001, height=1048.576, ports="p left, q bottom"]; }`, api.Graph{
			Nodes: []api.Node{with(a, label("x y"), width(1), height(maxSize), ports(p, q))},
		}},
		{`graph g { a [label=""]; b [ports=""]; }`, api.Graph{Nodes: []api.Node{with(a, label("")), b}}},
		{`graph g { a [width=2, height=3]; a [height=4, label=b]; }`, api.Graph{Nodes: []api.Node{with(a, width(2000), height(4000), label("b"))}}},
		{`graph g { a -- b; a [width=2]; b [ports="p left"]; b [ports="q bottom"]; }`, api.Graph{
			Nodes: []api.Node{with(a, width(2000)), with(b, ports(q))}, Edges: []api.Edge{link(0, 1)},
		}},
		{`graph g { a [ports="p left"]; a [ports=""]; a [label=x]; a [label=""]; }`, api.Graph{Nodes: []api.Node{with(a, label(""))}}},
		{`graph g { a -- b [label="x", weight=1000, len=64]; a -- b; }`, api.Graph{
			Nodes: []api.Node{a, b}, Edges: []api.Edge{with(link(0, 1), text("x"), weight(1000), length(64)), link(0, 1)},
		}},
		{`graph g { a -- b -- a [label="x", weight=2]; a -- a [label="", len=3]; }`, api.Graph{
			Nodes: []api.Node{a, b},
			Edges: []api.Edge{with(link(0, 1), text("x"), weight(2)), with(link(1, 0), text("x"), weight(2)), with(link(0, 0), length(3))},
		}},
		{`graph g { cluster k { a; } a [label=x]; cluster l { a [width=2]; } }`, api.Graph{
			Nodes: []api.Node{with(plain("a", 0), label("x"), width(2000))}, Clusters: []api.Cluster{{Name: "k", Parent: -1}, {Name: "l", Parent: -1}},
		}},
	})
}

// P12.1: the defaults, what they change and where they end.
func TestDefaults(t *testing.T) {
	a, b, c := plain("a", -1), plain("b", -1), plain("c", -1)
	k := []api.Cluster{{Name: "k", Parent: -1}}
	p := api.Port{Name: "p", Side: api.Left}
	checkBuilt(t, []built{
		{`graph g { a; node [width=2]; b; a; c; a [height=1]; }`, api.Graph{Nodes: []api.Node{with(a, height(1000)), with(b, width(2000)), with(c, width(2000))}}},
		{`graph g { node [width=2, height=3]; a -- b; node [height=4, label=x]; a -- c; }`, api.Graph{
			Nodes: []api.Node{with(a, width(2000), height(3000)), with(b, width(2000), height(3000)), with(c, width(2000), height(4000), label("x"))},
			Edges: []api.Edge{link(0, 1), link(0, 2)},
		}},
		{`graph g { node [label=x]; a [label=y]; b [label=""]; node [label=""]; c; }`, api.Graph{Nodes: []api.Node{with(a, label("y")), with(b, label("")), with(c, label(""))}}},
		{`graph g { node [ports="p left"]; a; b; c [ports=""]; }`, api.Graph{Nodes: []api.Node{with(a, ports(p)), with(b, ports(p)), c}}},
		{`graph g { node [width=2]; a; node []; b; edge []; c; }`, api.Graph{Nodes: []api.Node{with(a, width(2000)), with(b, width(2000)), with(c, width(2000))}}},
		{`graph g { a -- b; edge [weight=2, len=3]; b -- a; edge [len=4, label=x]; a -- a -- b [label="", weight=5]; a -- b; }`, api.Graph{
			Nodes: []api.Node{a, b},
			Edges: []api.Edge{
				link(0, 1), with(link(1, 0), weight(2), length(3)), with(link(0, 0), weight(5), length(4)),
				with(link(0, 1), weight(5), length(4)), with(link(0, 1), weight(2), length(4), text("x")),
			},
		}},
		{`graph g { edge [label=x]; node [label=y]; a -- b; }`, api.Graph{
			Nodes: []api.Node{with(a, label("y")), with(b, label("y"))}, Edges: []api.Edge{with(link(0, 1), text("x"))},
		}},
		{`graph g { node [width=2]; cluster k { a; node [height=3]; b; } c; }`, api.Graph{
			Nodes:    []api.Node{with(plain("a", 0), width(2000)), with(plain("b", 0), width(2000), height(3000)), with(c, width(2000))},
			Clusters: k,
		}},
		{`graph g { cluster k { edge [weight=2]; node [width=3]; a -- b; } a -- b; a -- c; }`, api.Graph{
			Nodes:    []api.Node{with(plain("a", 0), width(3000)), with(plain("b", 0), width(3000)), c},
			Edges:    []api.Edge{with(link(0, 1), weight(2)), link(0, 1), link(0, 2)},
			Clusters: k,
		}},
		{`graph g { edge [len=2]; cluster k { edge [weight=3]; cluster l { edge [len=4]; a -- a; } a -- a; } a -- a; }`, api.Graph{
			Nodes:    []api.Node{plain("a", 1)},
			Edges:    []api.Edge{with(link(0, 0), weight(3), length(4)), with(link(0, 0), weight(3), length(2)), with(link(0, 0), length(2))},
			Clusters: []api.Cluster{{Name: "k", Parent: -1}, {Name: "l", Parent: 0}},
		}},
	})
}

// P12.1: the ports of edges are found among those that the nodes have at the end.
func TestPorts(t *testing.T) {
	a, b := plain("a", -1), plain("b", -1)
	p, q := api.Port{Name: "p", Side: api.Top}, api.Port{Name: "q", Side: api.Right}
	checkBuilt(t, []built{
		{`graph g { a:p -- b:q -- a; a [ports="p top"]; b [ports="p top, q right"]; }`, api.Graph{
			Nodes: []api.Node{with(a, ports(p)), with(b, ports(p, q))},
			Edges: []api.Edge{with(link(0, 1), at(0, 1)), with(link(1, 0), at(1, -1))},
		}},
		{`graph g { a [ports="p top, q right"]; a:p -- a:q; a [ports="q right, p top"]; a -- a:p; }`, api.Graph{
			Nodes: []api.Node{with(a, ports(q, p))},
			Edges: []api.Edge{with(link(0, 0), at(1, 0)), with(link(0, 0), at(-1, 1))},
		}},
		{`graph g { a [ports="q right"]; a:p -- a; a [ports="p top"]; }`, api.Graph{
			Nodes: []api.Node{with(a, ports(p))}, Edges: []api.Edge{with(link(0, 0), at(0, -1))},
		}},
		{`graph g { node [ports="p top"]; a:p -- b:p; b [ports="q right, p top"]; }`, api.Graph{
			Nodes: []api.Node{with(a, ports(p)), with(b, ports(q, p))}, Edges: []api.Edge{with(link(0, 1), at(0, 1))},
		}},
		{`graph g { a [ports="a top, b right"]; a:b -- b; b -- a:a; }`, api.Graph{
			Nodes: []api.Node{with(a, ports(api.Port{Name: "a", Side: api.Top}, api.Port{Name: "b", Side: api.Right})), b},
			Edges: []api.Edge{with(link(0, 1), at(1, -1)), with(link(1, 0), at(-1, 0))},
		}},
	})
	for source, want := range map[string]api.Errno{
		`graph g { a:p -- b; }`: api.ErrName,
		`graph g { a -- b:p; }`: api.ErrName,
		`graph g { a [ports="p top"]; b [ports="q right"]; a:p -- b:q; }`:     api.OK,
		`graph g { a [ports="p top"]; b [ports="q right"]; a:q -- b; }`:       api.ErrName,
		`graph g { a [ports="p top"]; b [ports="q right"]; a:p -- b:p; }`:     api.ErrName,
		`graph g { a [ports="p top"]; b [ports="q right"]; a -- a:p -- b:p;}`: api.ErrName,
		`graph g { a [ports="p top"]; a:p -- b; a [ports="q top"]; }`:         api.ErrName,
		`graph g { a [ports="p top"]; a:p -- b; a [ports=""]; }`:              api.ErrName,
		`graph g { a:P -- b; a [ports="p top"]; }`:                            api.ErrName,
		`graph g { a:p -- b; node [ports="p top"]; }`:                         api.ErrName,
		`graph g { cluster k { node [ports="p top"]; } a:p -- b; }`:           api.ErrName,
		`graph g { node [ports="p top"]; a:p -- b:p; a:p -- b:p; }`:           api.OK,
	} {
		checkError(t, source, read(t, source), want)
	}
}

// P12.1: a name cannot be that of a cluster and of something else, whatever
// comes first.
func TestNamesTwice(t *testing.T) {
	for source, want := range map[string]api.Errno{
		"graph g { cluster k {} cluster k {} }":                         api.ErrDup,
		"graph g { cluster k { cluster k {} } }":                        api.ErrDup,
		"graph g { cluster k { cluster l {} } cluster m {cluster l{}}}": api.ErrDup,
		"graph g { cluster k { cluster l {} } cluster l {} }":           api.ErrDup,
		"graph g { a; cluster a {} }":                                   api.ErrDup,
		"graph g { b -- a; cluster a {} }":                              api.ErrDup,
		"graph g { a -- b; cluster a {} }":                              api.ErrDup,
		"graph g { cluster k { a; } cluster a {} }":                     api.ErrDup,
		"graph g { cluster k { a; cluster a {} } }":                     api.ErrDup,
		"graph g { cluster a { a; } }":                                  api.ErrDup,
		"graph g { cluster a { b -- a; } }":                             api.ErrDup,
		"graph g { cluster a {} a; }":                                   api.ErrDup,
		"graph g { cluster a {} a -- b; }":                              api.ErrDup,
		"graph g { cluster a {} b -- b -- a; }":                         api.ErrDup,
		"graph g { cluster a { cluster b { a; } } }":                    api.ErrDup,
		"graph g { cluster a { cluster b { } } cluster c { b; } }":      api.ErrDup,
		"graph a { a; a; a -- a; }":                                     api.OK,
		"graph a { cluster a {} cluster A {} }":                         api.OK,
		"graph g { A; cluster a { a1; _a; } }":                          api.OK,
		"graph g { cluster k { a:k -- a; a [ports=\"k top\"]; } }":      api.OK,
		"graph g { a [label=k]; cluster k { b [label=k]; } }":           api.OK,
	} {
		checkError(t, source, read(t, source), want)
	}
}

// fault is a statement with an error, where the cluster used and the node seen
// come before it.
type fault struct {
	stmt api.Stmt
	want api.Errno
}

func faults() []fault {
	return []fault{
		{node("a1", attr("weight", "1")), api.ErrName},
		{node("a2", attr("width", "0")), api.ErrValue},
		{node("used", attr("label", "x")), api.ErrDup},
		{node("used", attr("height", "-1")), api.ErrValue},
		{node("a3", attr("width", "x"), attr("w", "1")), api.ErrValue},
		{node("a4", attr("w", "1"), attr("width", "x")), api.ErrName},
		{node("a5", attr("label", "x"), attr("ports", "p")), api.ErrValue},
		{ends("seen", "used"), api.ErrDup},
		{ends("used", "seen"), api.ErrDup},
		{ends("a6", "a7", "used", "a8"), api.ErrDup},
		{having(ends("a9", "used"), attr("len", "65")), api.ErrValue},
		{having(ends("used", "b1"), attr("ports", "p top")), api.ErrName},
		{having(ends("b2", "b2"), attr("weight", "1"), attr("label", "x"), attr("len", "0")), api.ErrValue},
		{defaults("node", attr("len", "1")), api.ErrName},
		{defaults("node", attr("label", ""), attr("width", "1048.577")), api.ErrValue},
		{defaults("edge", attr("width", "1")), api.ErrName},
		{defaults("edge", attr("weight", "1.5")), api.ErrValue},
		{set("mode", "Tidy"), api.ErrValue},
		{set("rounds", "101"), api.ErrValue},
		{set("label", "x"), api.ErrName},
		{cluster("used"), api.ErrDup},
		{cluster("used", node("b3", attr("width", "0"))), api.ErrDup},
		{cluster("seen"), api.ErrDup},
		{cluster("c1", node("b4", attr("width", "0"))), api.ErrValue},
		{cluster("c2", node("b5"), cluster("c3", ends("b6", "c2"))), api.ErrDup},
	}
}

// afterFaults returns trees that have the error of s, in all places where s may
// stand with t after it.
func afterFaults(s, t api.Stmt) []api.Tree {
	first := []api.Stmt{cluster("used"), node("seen")}
	list := []api.Tree{}
	for _, body := range [][]api.Stmt{
		{s, t},
		{cluster("k", s), t},
		{cluster("k", s, t)},
		{s, cluster("k", t)},
		{cluster("k", node("l"), cluster("m", s)), cluster("n", t)},
		{ends("a", "seen:p"), s, t},
	} {
		list = append(list, of(append(first[:2:2], body...)...))
	}
	return list
}

// P12.1, 0.2: the errors of statements, and of two of them the first one.
func TestFirstError(t *testing.T) {
	for _, f := range faults() {
		for _, g := range faults() {
			for _, x := range afterFaults(f.stmt, g.stmt) {
				if _, err := normalize.Build(x); err != f.want {
					t.Errorf("Build(%+v) = %d, want %d", x, err, f.want)
				}
				checkTree(t, x)
			}
		}
	}
}

// numbered returns n statements that declare different nodes.
func numbered(n int) []api.Stmt {
	list := []api.Stmt{}
	for i := range n {
		list = append(list, node("n"+strconv.Itoa(i)))
	}
	return list
}

// groups returns n clusters of different names beside each other.
func groups(n int) []api.Stmt {
	list := []api.Stmt{}
	for i := range n {
		list = append(list, cluster("k"+strconv.Itoa(i)))
	}
	return list
}

// nested returns n clusters of different names, each in the one before; the last
// one has body.
func nested(n int, body ...api.Stmt) []api.Stmt {
	for i := range n {
		body = []api.Stmt{cluster("k"+strconv.Itoa(i), body...)}
	}
	return body
}

// long returns an edge statement that stands for n edges between two nodes.
func long(n int) api.Stmt {
	return ends(append([]string{"a"}, slices.Repeat([]string{"b"}, n)...)...)
}

// wide returns an edge statement with n nodes.
func wide(n int) api.Stmt {
	names := []string{}
	for i := range n {
		names = append(names, "w"+strconv.Itoa(i))
	}
	return ends(names...)
}

// join returns the statements of all bodies.
func join(bodies ...[]api.Stmt) []api.Stmt { return slices.Concat(bodies...) }

// P12.1: the limits of the graph, of the tree, and of what the statements have.
func TestLimits(t *testing.T) {
	one := func(l ...api.Stmt) []api.Stmt { return l }
	four := "b top, c top, d top"
	for what, c := range map[string]struct {
		body []api.Stmt
		want api.Errno
	}{
		"64 nodes":               {numbered(64), api.OK},
		"65 nodes":               {numbered(65), api.ErrLimit},
		"64 nodes in a chain":    {one(wide(64)), api.OK},
		"65 nodes in a chain":    {one(wide(65)), api.ErrLimit},
		"64 nodes, two kinds":    {join(numbered(32), one(wide(32))), api.OK},
		"65 nodes, two kinds":    {join(numbered(32), one(wide(33))), api.ErrLimit},
		"64 nodes twice":         {join(numbered(64), numbered(64)), api.OK},
		"65 nodes in clusters":   {one(cluster("c", numbered(64)...), node("x")), api.ErrLimit},
		"256 edges":              {one(long(256)), api.OK},
		"257 edges":              {one(long(257)), api.ErrLimit},
		"258 edges":              {one(long(258)), api.ErrLimit},
		"256 edges in parts":     {one(long(100), long(155), cluster("c", long(1))), api.OK},
		"257 edges in parts":     {one(long(100), long(156), cluster("c", long(1))), api.ErrLimit},
		"16 clusters":            {groups(16), api.OK},
		"17 clusters":            {groups(17), api.ErrLimit},
		"16 clusters, nested":    {one(cluster("a", cluster("b", groups(13)...)), cluster("c")), api.OK},
		"17 clusters, nested":    {one(cluster("a", cluster("b", groups(14)...)), cluster("c")), api.ErrLimit},
		"depth 6":                {nested(6, node("a")), api.OK},
		"depth 7":                {nested(7, node("a")), api.ErrLimit},
		"depth 7, other error":   {join(nested(7), one(node("a", attr("width", "0")))), api.ErrLimit},
		"512 statements":         {slices.Repeat(one(node("a", attr("width", "2"))), 512), api.OK},
		"513 statements":         {slices.Repeat(one(node("a", attr("width", "0"))), 513), api.ErrLimit},
		"label of 32":            {one(node("a", attr("label", strings.Repeat("x", 32)))), api.OK},
		"label of 33":            {one(node("a", attr("label", strings.Repeat("x", 33)))), api.ErrLimit},
		"label of an edge of 32": {one(having(ends("a", "b"), attr("label", strings.Repeat("~", 32)))), api.OK},
		"label of an edge of 33": {one(having(ends("a", "b"), attr("label", strings.Repeat("~", 33)))), api.ErrLimit},
		"name of 16":             {one(node(strings.Repeat("x", 16))), api.OK},
		"name of 17":             {one(node(strings.Repeat("x", 17))), api.ErrName},
		"ports of 32 bytes":      {one(node("a", attr("ports", "abcdefg top, "+four)), ends("a:d", "a:abcdefg")), api.OK},
		"ports of 33 bytes":      {one(node("a", attr("ports", "abcdefgh top, "+four))), api.ErrLimit},
		"many attributes":        {one(node("a", keys(16)...)), api.ErrName},
		"too many attributes":    {one(node("a", keys(17)...)), api.ErrLimit},
		"all at once": {join(one(cluster("c", numbered(63)...), long(1), node("b", attr("ports", "p top")), ends("n0", "b:p")),
			groups(15), one(having(long(253), attr("weight", "1000"), attr("len", "64")), ends("b:p", "b:p"))), api.ErrLimit},
		"all just not": {join(one(cluster("c", numbered(62)...), long(1), node("b", attr("ports", "p top")), ends("n0", "b:p")),
			groups(15), one(having(long(253), attr("weight", "1000"), attr("len", "64")), ends("b:p", "b:p"))), api.OK},
	} {
		checkError(t, what, of(c.body...), c.want)
	}
}

// keys returns n attributes with different keys.
func keys(n int) []api.Attr {
	l := []api.Attr{}
	for i := range n {
		l = append(l, attr("k"+strconv.Itoa(i), "1"))
	}
	return l
}

// P12.1, 0.2: the errors of the tree come before those of statements, these
// before those of ports, and these before those of the graph, wherever they are.
func TestOrderOfErrors(t *testing.T) {
	ranks := [][]fault{
		{{node("a", attr("label", "\n")), api.ErrValue}, {node("node"), api.ErrName}, {ends("a"), api.ErrArg}},
		{{ends("b", "used"), api.ErrDup}, {node("b", attr("len", "1")), api.ErrName}, {set("rounds", "x"), api.ErrValue}},
		{{ends("c", "c:p"), api.ErrName}, {ends("c:p", "c"), api.ErrName}},
		{{wide(65), api.ErrLimit}, {cluster("d", groups(17)...), api.ErrLimit}, {long(257), api.ErrLimit}},
	}
	for i, rank := range ranks {
		for _, f := range rank {
			for _, g := range slices.Concat(ranks[i+1:]...) {
				first := cluster("used")
				for _, x := range []api.Tree{
					of(first, f.stmt, g.stmt), of(first, g.stmt, f.stmt),
					of(first, cluster("x", g.stmt), f.stmt), of(first, g.stmt, cluster("x", f.stmt)),
				} {
					checkError(t, "two errors", x, f.want)
				}
			}
		}
	}
}

// P12.1: the names of ports that are missing, in the first edge with one, are
// found before there are too many edges or nodes, however long the chains are.
func TestLongChains(t *testing.T) {
	n := 100000
	bad := long(n)
	bad.Refs = append(bad.Refs, api.Ref{Node: "b", Port: "p"})
	good := node("b", attr("ports", "p top"))
	dup := long(n)
	dup.Refs = append(dup.Refs, api.Ref{Node: "k"})
	for what, c := range map[string]struct {
		tree api.Tree
		want api.Errno
	}{
		"long":               {of(long(n)), api.ErrLimit},
		"no port":            {of(bad), api.ErrName},
		"a port":             {of(bad, good), api.ErrLimit},
		"cluster at the end": {of(cluster("k"), dup, bad), api.ErrDup},
		"wide":               {of(wide(n)), api.ErrLimit},
		"wide, no port":      {of(wide(n), ends("w0", "w1:p")), api.ErrName},
		"many long ones":     {of(slices.Repeat([]api.Stmt{long(n)}, 100)...), api.ErrLimit},
	} {
		if g, err := normalize.Build(c.tree); err != c.want || !sameGraph(g, api.Graph{}) {
			t.Errorf("%s: %d nodes, %d edges, %d, want %d", what, len(g.Nodes), len(g.Edges), err, c.want)
		}
		if o, err := normalize.Options(c.tree); err != api.OK || o != (api.Options{NodeSep: 10000, RankSep: 20000, Margin: 5000, Rounds: 8}) {
			t.Errorf("%s: %+v, %d", what, o, err)
		}
	}
}

// P12.1, P12.2: trees that are not valid.
func TestInvalidTrees(t *testing.T) {
	for what, c := range map[string]struct {
		tree api.Tree
		want api.Errno
	}{
		"no tree":             {api.Tree{}, api.ErrName},
		"no name":             {api.Tree{Body: []api.Stmt{node("a")}}, api.ErrName},
		"keyword":             {api.Tree{Name: "graph"}, api.ErrName},
		"kind 0":              {of(api.Stmt{}), api.ErrArg},
		"kind 6":              {of(api.Stmt{Kind: 6, Name: "a"}), api.ErrArg},
		"kind -1":             {of(api.Stmt{Kind: -1, Name: "a", Attrs: []api.Attr{{}}}), api.ErrArg},
		"node with refs":      {of(api.Stmt{Kind: api.SNode, Name: "a", Refs: ends("a", "b").Refs}), api.ErrArg},
		"node with a body":    {of(api.Stmt{Kind: api.SNode, Name: "a", Body: []api.Stmt{node("b")}}), api.ErrArg},
		"edge without refs":   {of(api.Stmt{Kind: api.SEdge}), api.ErrArg},
		"edge with one ref":   {of(ends("a")), api.ErrArg},
		"edge with a name":    {of(api.Stmt{Kind: api.SEdge, Name: "a", Refs: ends("a", "b").Refs}), api.ErrArg},
		"default of none":     {of(defaults("")), api.ErrArg},
		"default of clusters": {of(defaults("cluster", attr("label", "x"))), api.ErrArg},
		"set without value":   {of(api.Stmt{Kind: api.SSet, Name: "mode"}), api.ErrArg},
		"set with a key":      {of(api.Stmt{Kind: api.SSet, Name: "mode", Attrs: []api.Attr{attr("mode", "tidy")}}), api.ErrArg},
		"set with two values": {of(api.Stmt{Kind: api.SSet, Name: "mode", Attrs: []api.Attr{attr("", "tidy"), attr("", "tidy")}}), api.ErrArg},
		"set without a name":  {of(set("", "tidy")), api.ErrName},
		"cluster with attrs":  {of(having(cluster("a"), attr("label", "x"))), api.ErrArg},
		"cluster of no name":  {of(cluster("", node("a"))), api.ErrName},
		"node of no name":     {of(node("")), api.ErrName},
		"ref of no name":      {of(ends("a", ":p")), api.ErrName},
		"port of no name":     {of(ends("a", "b:1")), api.ErrName},
		"key of no name":      {of(node("a", attr("", "1"))), api.ErrName},
		"key twice":           {of(node("a", attr("label", "x"), attr("label", "x"))), api.ErrDup},
		"value too long":      {of(node("a", attr("width", strings.Repeat("1", 33)))), api.ErrLimit},
		"value of bytes":      {of(node("a", attr("label", "é"))), api.ErrValue},
		"set too long":        {of(set("mode", strings.Repeat("1", 33))), api.ErrLimit},
		"set of bytes":        {of(set("mode", "tidy\x00")), api.ErrValue},
	} {
		checkError(t, what, c.tree, c.want)
		if o, err := normalize.Options(c.tree); err != c.want || o != (api.Options{}) {
			t.Errorf("%s: Options = %+v, %d, want %d", what, o, err, c.want)
		}
		late := of(node("a", attr("width", "0")), cluster("c", c.tree.Body...))
		if c.tree.Name == "g" {
			checkError(t, what, late, c.want)
		}
	}
}

// P12.1: every key of every kind, and others, with values at and around their
// limits, in every statement that has attributes.
func TestEveryAttribute(t *testing.T) {
	names := []string{"label", "width", "height", "ports", "weight", "len", "mode", "nodesep", "ranksep", "margin", "rounds", "Label", "color"}
	vals := []string{
		"", " ", "x", "x y", "0", "0.001", "0.0001", "0.5", "0.50", "1", "1.0", "01", "+1", "-1", "2", "2.5", "64", "64.001", "65", "100", "101",
		"999.999", "1000", "1001", "1048.575", "1048.576", "1048.577", "268435.456", "999999", "1e2",
		"layered", "orthogonal", "straight", "tidy", "radial", "Radial", "tidy ", "p top", "p up", "a left, b right", "a left, a right", "node top", "p  top", ", ",
	}
	for _, key := range names {
		for _, val := range vals {
			a := attr(key, val)
			for _, c := range []struct {
				kind int
				stmt api.Stmt
			}{
				{api.SNode, node("a", a)},
				{api.SNode, defaults("node", a)},
				{api.SEdge, having(ends("a", "b"), a)},
				{api.SEdge, defaults("edge", a)},
				{api.SSet, set(key, val)},
			} {
				want := attrs.Check(c.kind, a)
				checkError(t, "one attribute", of(c.stmt, node("a"), ends("a", "b")), want)
				checkError(t, "in a cluster", of(cluster("c", c.stmt), ends("a", "b")), want)
			}
		}
	}
}

// P12.2: each option with values at and around its limits, and the last one of
// each name.
func TestOptions(t *testing.T) {
	usual := api.Options{NodeSep: 10000, RankSep: 20000, Margin: 5000, Rounds: 8}
	for source, change := range map[string]func(o *api.Options){
		"":                                                func(*api.Options) {},
		"set mode=layered;":                               func(*api.Options) {},
		"set mode=orthogonal;":                            func(o *api.Options) { o.Mode = 1 },
		"set mode=straight;":                              func(o *api.Options) { o.Mode = 2 },
		"set mode=tidy;":                                  func(o *api.Options) { o.Mode = 3 },
		"set mode=radial;":                                func(o *api.Options) { o.Mode = 4 },
		"set mode=radial; set mode=layered;":              func(*api.Options) {},
		"set mode=layered; set mode=radial;":              func(o *api.Options) { o.Mode = 4 },
		"set nodesep=0;":                                  func(o *api.Options) { o.NodeSep = 0 },
		"set nodesep=1048.576;":                           func(o *api.Options) { o.NodeSep = maxSize },
		"set ranksep=0.001;":                              func(o *api.Options) { o.RankSep = 1 },
		"set ranksep=1048.576;":                           func(o *api.Options) { o.RankSep = maxSize },
		"set margin=0;":                                   func(o *api.Options) { o.Margin = 0 },
		"set margin=1048.576;":                            func(o *api.Options) { o.Margin = maxSize },
		"set rounds=0;":                                   func(o *api.Options) { o.Rounds = 0 },
		"set rounds=100;":                                 func(o *api.Options) { o.Rounds = 100 },
		"set rounds=3; set rounds=0; set margin=2;":       func(o *api.Options) { o.Rounds, o.Margin = 0, 2000 },
		"cluster c { set mode=tidy; } set margin=1;":      func(o *api.Options) { o.Mode, o.Margin = 3, 1000 },
		"set mode=radial; cluster c { set mode=tidy; }":   func(o *api.Options) { o.Mode = 3 },
		"cluster c { set mode=tidy; } set mode=radial;":   func(o *api.Options) { o.Mode = 4 },
		"cluster c { cluster d { set rounds=1; } a; } b;": func(o *api.Options) { o.Rounds = 1 },
		"cluster c { cluster d { set margin=1; set margin=2; } set margin=3; } cluster e { set ranksep=4; }": func(o *api.Options) { o.Margin, o.RankSep = 3000, 4000 },
		"set mode=tidy; set nodesep=1; set ranksep=2; set margin=3; set rounds=4;":                           func(o *api.Options) { *o = api.Options{Mode: 3, NodeSep: 1000, RankSep: 2000, Margin: 3000, Rounds: 4} },
		"a [width=0]; b -- b:p [color=red]; node [x=y]; edge [width=1]; cluster b { b; } cluster b {}":       func(*api.Options) {},
		"set rounds=9; cluster a { a [width=0]; set rounds=7; }":                                             func(o *api.Options) { o.Rounds = 7 },
	} {
		x := read(t, "graph g { "+source+" }")
		if o, err := normalize.Options(x); err != api.OK || o != with(usual, change) {
			t.Errorf("%s: %+v, %d, want %+v", source, o, err, with(usual, change))
		}
		checkTree(t, x)
	}
}

// P12.2, 0.2: the errors of options, of which the first one counts, and no
// errors of other statements.
func TestErrorsOfOptions(t *testing.T) {
	for source, want := range map[string]api.Errno{
		"set mode=x;":                        api.ErrValue,
		"set mode=\"\";":                     api.ErrValue,
		"set mode=0;":                        api.ErrValue,
		"set Mode=tidy;":                     api.ErrName,
		"set label=x;":                       api.ErrName,
		"set width=1;":                       api.ErrName,
		"set nodesep=-1;":                    api.ErrValue,
		"set ranksep=1048.577;":              api.ErrValue,
		"set margin=x;":                      api.ErrValue,
		"set rounds=0.5;":                    api.ErrValue,
		"set rounds=101;":                    api.ErrValue,
		"set rounds=101; set rounds=1;":      api.ErrValue,
		"set x=1; set rounds=101;":           api.ErrName,
		"set rounds=101; set x=1;":           api.ErrValue,
		"a [x=y]; set mode=x; set x=1;":      api.ErrValue,
		"cluster c { set x=1; } set mode=x;": api.ErrName,
		"set margin=1; cluster c { cluster d { set mode=x; } set x=1; }": api.ErrValue,
	} {
		x := read(t, "graph g { "+source+" }")
		if o, err := normalize.Options(x); err != want || o != (api.Options{}) {
			t.Errorf("%s: %+v, %d, want %d", source, o, err, want)
		}
		checkTree(t, x)
	}
}

// P12.3: all combinations of numbers at and around the limits.
func TestValidOptions(t *testing.T) {
	around := func(most int) []int {
		return []int{math.MinInt, -most, -1, 0, 1, most - 1, most, most + 1, 1 << 32, math.MaxInt}
	}
	is := func(n, most int) bool { return n >= 0 && n <= most }
	for _, mode := range []int{math.MinInt, -1, 0, 1, 2, 3, 4, 5, math.MaxInt} {
		for _, nodeSep := range around(maxSize) {
			for _, rankSep := range around(maxSize) {
				for _, margin := range around(maxSize) {
					for _, rounds := range around(100) {
						o := api.Options{Mode: mode, NodeSep: nodeSep, RankSep: rankSep, Margin: margin, Rounds: rounds}
						want := is(mode, 4) && is(nodeSep, maxSize) && is(rankSep, maxSize) && is(margin, maxSize) && is(rounds, 100)
						if got := normalize.ValidOptions(o); got != want {
							t.Fatalf("ValidOptions(%+v) = %t", o, got)
						}
					}
				}
			}
		}
	}
}

// forests calls visit with all lists of n statements, those in clusters
// included, of which the others are out of leaves.
func forests(n int, leaves []api.Stmt, clusters []string, visit func(body []api.Stmt)) {
	if n == 0 {
		visit(nil)
		return
	}
	for _, s := range leaves {
		forests(n-1, leaves, clusters, func(rest []api.Stmt) { visit(append([]api.Stmt{s}, rest...)) })
	}
	for inner := range n {
		forests(inner, leaves, clusters, func(body []api.Stmt) {
			forests(n-1-inner, leaves, clusters, func(rest []api.Stmt) {
				for _, name := range clusters {
					visit(append([]api.Stmt{cluster(name, body...)}, rest...))
				}
			})
		})
	}
}

// P12.1, P12.2, P12.4: all short trees of some statements.
func TestAllShortTrees(t *testing.T) {
	leaves := []api.Stmt{
		node("a", attr("width", "3")),
		node("a", attr("ports", "q left, p top")),
		node("b"),
		ends("b", "a:p"),
		having(ends("a", "b", "a"), attr("len", "3")),
		ends("a", "k"),
		defaults("node", attr("ports", "p top")),
		defaults("node", attr("width", "2"), attr("label", "x")),
		defaults("edge", attr("weight", "2"), attr("len", "2")),
		set("rounds", "1"),
	}
	built, all := 0, 0
	for n := range 5 {
		forests(n, leaves, []string{"k", "l"}, func(body []api.Stmt) {
			if build, _ := checkTree(t, of(body...)); build == api.OK {
				built++
			}
			all++
		})
	}
	if all != 1+12+168+2640+45024 || built < all/4 {
		t.Errorf("%d of %d trees are graphs", built, all)
	}
}

// maker makes random trees.
type maker struct {
	*rand.Rand
	bad int // one of so many values and names is not valid, or 0
}

// pick returns one of list.
func pick[T any](m maker, list ...T) T {
	return list[m.IntN(len(list))]
}

// value returns a random value for the key.
func (m maker) value(key string) string {
	if m.bad > 0 && m.IntN(m.bad) == 0 {
		return pick(m, "", "0", "x", "1.5", "2000", "-1", "p up", "p top, p left", "tidy")
	}
	switch key {
	case "label":
		return pick(m, "", "x", "x y", "a", "0", strings.Repeat("~", 32))
	case "ports":
		return pick(m, "", "p top", "q left", "p right, q bottom", "q bottom, p left", "p top, q top, r left, s top")
	case "weight", "len", "rounds":
		return strconv.Itoa(1 + m.IntN(64))
	case "mode":
		return pick(m, "layered", "orthogonal", "straight", "tidy", "radial")
	}
	return pick(m, "0.001", "0.5", "1", "2.25", "30", "999.999", "1048.576")
}

// attrs returns random attributes out of those with these keys.
func (m maker) attrs(keys ...string) []api.Attr {
	l := []api.Attr{}
	for _, i := range m.Perm(len(keys))[:m.IntN(len(keys)+1)] {
		l = append(l, attr(keys[i], m.value(keys[i])))
	}
	if m.bad > 0 && m.IntN(m.bad) == 0 {
		l = append(l, attr(pick(m, "color", "mode", "len", "width"), "1"))
	}
	return l
}

func (m maker) ref() string {
	name := pick(m, "a", "b", "c", "d", "e", "f", "g")
	if m.bad > 0 && m.IntN(4*m.bad) == 0 {
		name = pick(m, "k0", "k1", "k2")
	}
	if m.IntN(6) == 0 {
		name += pick(m, ":p", ":p", ":q", ":s")
	}
	return name
}

// stmt returns a random statement of at most the size; next is the number of the
// next cluster.
func (m maker) stmt(size, level int, next *int) api.Stmt {
	switch m.IntN(12) {
	case 0, 1, 2:
		name, _, _ := strings.Cut(m.ref(), ":")
		return node(name, m.attrs("label", "width", "height", "ports")...)
	case 3, 4, 5:
		s := ends(m.ref(), m.ref())
		for m.IntN(3) == 0 {
			s.Refs = append(s.Refs, ends(m.ref()).Refs...)
		}
		return having(s, m.attrs("label", "weight", "len")...)
	case 6, 7:
		return defaults("node", m.attrs("label", "width", "height", "ports")...)
	case 8:
		return defaults("edge", m.attrs("label", "weight", "len")...)
	case 9:
		name := pick(m, "mode", "nodesep", "ranksep", "margin", "rounds")
		return set(name, m.value(name))
	}
	if level >= 6 {
		return node("a")
	}
	name := "k" + strconv.Itoa(*next)
	if m.bad > 0 && m.IntN(m.bad) == 0 {
		name = pick(m, "a", "k0", "k1", "h")
	}
	*next++
	return cluster(name, m.body(m.IntN(size+1), level+1, next)...)
}

func (m maker) body(size, level int, next *int) []api.Stmt {
	body := []api.Stmt{}
	for range size {
		body = append(body, m.stmt(size/2, level, next))
	}
	return body
}

// tree returns a random tree. If it begins with the ports of all nodes, most
// trees have the ports to which edges refer.
func (m maker) tree(size int) api.Tree {
	next := 0
	x := api.Tree{Name: pick(m, "g", "a", "k0"), Directed: m.IntN(2) == 0, Body: m.body(size, 0, &next)}
	if m.IntN(2) == 0 {
		for _, name := range tree.Names(x) {
			x.Body = append(x.Body, node(name, attr("ports", pick(m, "p top, q top, s left", "s left, q top, p right"))))
		}
	}
	return x
}

// P12.1, P12.2, P12.4: random trees, with and without errors.
func TestRandomTrees(t *testing.T) {
	r := rand.New(rand.NewPCG(12, 1))
	errors := map[api.Errno]int{}
	for i := range 40000 {
		m := maker{r, []int{0, 20, 100}[i%3]}
		build, options := checkTree(t, m.tree(r.IntN(12)))
		errors[build]++
		errors[100+options]++
	}
	for _, err := range []api.Errno{api.OK, api.ErrName, api.ErrDup, api.ErrValue, 100, 100 + api.ErrValue} {
		if errors[err] < 300 {
			t.Errorf("error %d: %d of the trees", err, errors[err])
		}
	}
}

// P12.1, P12.4: random trees with about as many nodes, edges and clusters as a
// graph may have.
func TestLargeTrees(t *testing.T) {
	m := maker{rand.New(rand.NewPCG(12, 3)), 0}
	errors := map[api.Errno]int{}
	for range 100 {
		different := 58 + m.IntN(10)
		name := func() string { return "n" + strconv.Itoa(m.IntN(different)) }
		body := append(groups(m.IntN(18)), node("a"))
		for range 200 + m.IntN(80) {
			s := pick(m, ends(name(), name()), ends(name(), name(), name()), node(name(), m.attrs("width")...))
			if at := m.IntN(len(body)); body[at].Kind == api.SCluster {
				body[at].Body = append(body[at].Body, s)
			} else {
				body = append(body, s)
			}
		}
		build, _ := checkTree(t, of(body...))
		errors[build]++
	}
	if errors[api.OK] < 20 || errors[api.ErrLimit] < 20 {
		t.Errorf("%d graphs, %d errors", errors[api.OK], errors[api.ErrLimit])
	}
}

// spoil changes one field of a statement of body to something that is rarely
// valid there.
func (m maker) spoil(body []api.Stmt) {
	if len(body) == 0 {
		return
	}
	s := &body[m.IntN(len(body))]
	word := pick(m, "", "a", "k0", "node", "edge", "label", "1", "x y", "mode", "p top", "\n", strings.Repeat("y", 17), strings.Repeat("z", 33))
	switch m.IntN(7) {
	case 0:
		s.Kind = m.IntN(8) - 1
	case 1:
		s.Name = word
	case 2:
		s.Attrs = append(s.Attrs, attr(word, word))
	case 3:
		s.Refs = append(s.Refs, api.Ref{Node: "a", Port: word})
	case 4:
		s.Refs = append([]api.Ref{{Node: word}}, s.Refs...)
	case 5:
		if len(s.Attrs) > 0 {
			s.Attrs[m.IntN(len(s.Attrs))].Val = word
		}
	case 6:
		m.spoil(s.Body)
	}
}

// P12.1, P12.2: random trees of which some are not valid.
func TestSpoiledTrees(t *testing.T) {
	r := rand.New(rand.NewPCG(12, 2))
	for range 20000 {
		m := maker{r, 0}
		x := m.tree(1 + r.IntN(8))
		for range 1 + r.IntN(2) {
			m.spoil(x.Body)
		}
		checkTree(t, x)
	}
}

// full returns a tree with statements of all kinds and with all that they may
// have.
func full() api.Tree {
	return of(
		defaults("node", attr("ports", "p top, q left")),
		defaults("edge", attr("label", "x")),
		node("a", attr("label", "y")),
		ends("a:p", "b:q", "a"),
		cluster("c", node("d"), cluster("e", ends("d", "f:q"), set("mode", "tidy"))),
		set("margin", "1"),
	)
}

// spare returns body with other elements between the length and the capacity of
// each slice, and adds to all what it returns the whole lists.
func spare(body []api.Stmt, all *[][]api.Stmt) []api.Stmt {
	list := []api.Stmt{}
	for _, s := range body {
		s.Refs = append(slices.Clone(s.Refs), api.Ref{Node: "z", Port: "z"}, api.Ref{Node: "y"})[:len(s.Refs)]
		s.Attrs = append(slices.Clone(s.Attrs), attr("z", "z"), attr("width", "0"))[:len(s.Attrs)]
		s.Body = spare(s.Body, all)
		list = append(list, s)
	}
	list = append(list, node("z", attr("width", "0")), cluster("y", node("y")))
	*all = append(*all, list)
	return list[:len(body)]
}

// 0.4, 0.8: arguments are not changed, and elements beyond the length of a slice
// are neither used nor changed.
func TestArguments(t *testing.T) {
	x, all := full(), [][]api.Stmt{}
	x.Body = spare(x.Body, &all)
	whole := func() [][]api.Stmt {
		list := [][]api.Stmt{}
		for _, body := range all {
			body = copiedBody(body)
			for i := range body {
				s := all[len(list)][i]
				body[i].Refs = append([]api.Ref{}, s.Refs[:cap(s.Refs)]...)
				body[i].Attrs = append([]api.Attr{}, s.Attrs[:cap(s.Attrs)]...)
			}
			list = append(list, body)
		}
		return list
	}
	before := whole()
	g, err := normalize.Build(x)
	if h, _ := normalize.Build(full()); err != api.OK || !sameGraph(g, h) {
		t.Errorf("Build = %+v, %d, want %+v", g, err, h)
	}
	o, err := normalize.Options(x)
	if p, _ := normalize.Options(full()); err != api.OK || o != p {
		t.Errorf("Options = %+v, %d, want %+v", o, err, p)
	}
	checkTree(t, x)
	if !reflect.DeepEqual(before, whole()) {
		t.Errorf("%+v was changed to %+v", before, whole())
	}
}

// 0.4, 0.9: two calls return equal results, and no two results or parts of one
// share memory.
func TestResults(t *testing.T) {
	x := full()
	g, err := normalize.Build(x)
	h, again := normalize.Build(x)
	if err != api.OK || again != api.OK || !sameGraph(g, h) || len(g.Nodes) != 4 {
		t.Fatalf("Build = %+v, %d, then %+v, %d", g, err, h, again)
	}
	want := copiedGraph(h)
	for i := range g.Nodes {
		for j := range g.Nodes[i].Ports {
			g.Nodes[i].Ports[j].Name = strconv.Itoa(i) + strconv.Itoa(j)
		}
		g.Nodes[i].Ports = append(g.Nodes[i].Ports, api.Port{Name: "z"})
	}
	for i, n := range g.Nodes {
		for j, p := range n.Ports[:2] {
			if p.Name != strconv.Itoa(i)+strconv.Itoa(j) {
				t.Errorf("the ports of the node %d are those of another one", i)
			}
		}
	}
	clear(g.Nodes)
	clear(g.Edges)
	clear(g.Clusters)
	if !sameGraph(h, want) {
		t.Errorf("the second graph is now %+v", h)
	}
	if g, err := normalize.Build(x); err != api.OK || !sameGraph(g, want) {
		t.Errorf("the third graph is %+v, %d", g, err)
	}
}

// 0.1: trees that contain themselves, and trees with as many levels of all
// kinds, are not valid.
func TestEndlessTrees(t *testing.T) {
	for kind := range 7 {
		body := []api.Stmt{{Kind: kind, Name: "a"}}
		body[0].Body = body
		deep := api.Stmt{Kind: kind, Name: "a"}
		for range 1 << 16 {
			deep = api.Stmt{Kind: kind, Name: "a", Body: []api.Stmt{deep}}
		}
		for _, x := range []api.Tree{of(body...), of(node("b"), cluster("c", body...)), of(deep)} {
			if g, err := normalize.Build(x); err != api.ErrLimit || !sameGraph(g, api.Graph{}) {
				t.Errorf("kind %d: Build = %d", kind, err)
			}
			if o, err := normalize.Options(x); err != api.ErrLimit || o != (api.Options{}) {
				t.Errorf("kind %d: Options = %d", kind, err)
			}
		}
	}
}
