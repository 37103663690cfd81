package tree_test

import (
	"math"
	"math/rand/v2"
	"reflect"
	"regexp"
	"slices"
	"strings"
	"testing"

	"layout/api"
	"layout/tree"
)

const (
	statements = 512
	depth      = api.MaxDepth
	label      = api.MaxLabel
	most       = api.MaxAttrs
)

func of(body ...api.Stmt) api.Tree {
	return api.Tree{Name: "g", Body: body}
}

func attr(key, val string) api.Attr {
	return api.Attr{Key: key, Val: val}
}

func ref(node, port string) api.Ref {
	return api.Ref{Node: node, Port: port}
}

func node(name string, l ...api.Attr) api.Stmt {
	return api.Stmt{Kind: api.SNode, Name: name, Attrs: l}
}

func edge(refs ...api.Ref) api.Stmt {
	return api.Stmt{Kind: api.SEdge, Refs: refs}
}

// chain returns an edge statement with refs to these nodes.
func chain(nodes ...string) api.Stmt {
	refs := []api.Ref{}
	for _, n := range nodes {
		refs = append(refs, ref(n, ""))
	}
	return edge(refs...)
}

func defaults(name string, l ...api.Attr) api.Stmt {
	return api.Stmt{Kind: api.SDefault, Name: name, Attrs: l}
}

func set(name, val string) api.Stmt {
	return api.Stmt{Kind: api.SSet, Name: name, Attrs: []api.Attr{attr("", val)}}
}

func cluster(name string, body ...api.Stmt) api.Stmt {
	return api.Stmt{Kind: api.SCluster, Name: name, Body: body}
}

// with returns s after the change.
func with(s api.Stmt, change func(s *api.Stmt)) api.Stmt {
	change(&s)
	return s
}

// nested returns levels clusters, each with the next one; the last one has body.
func nested(levels int, body ...api.Stmt) []api.Stmt {
	for range levels {
		body = []api.Stmt{cluster("c", body...)}
	}
	return body
}

// attrs returns n attributes with different keys.
func attrs(n int) []api.Attr {
	l := []api.Attr{}
	for i := range n {
		l = append(l, attr("k"+strings.Repeat("x", i/26)+string(rune('a'+i%26)), "v"))
	}
	return l
}

// sample returns a valid tree with statements of all kinds and with all that
// they may have.
func sample() api.Tree {
	return api.Tree{Name: "g", Directed: true, Body: []api.Stmt{
		node("a", attr("label", "x y"), attr("width", "2.5")),
		set("mode", "tidy"),
		defaults("edge"),
		edge(ref("b", "p"), ref("a", ""), ref("b", "a")),
		cluster("c", defaults("node", attr("a", "a")), cluster("d", node("e"), chain("f", "f"))),
		cluster("h"),
		node("a"),
		chain("e", "i"),
	}}
}

// deepCopy returns a tree that is equal to t and shares no memory with it.
func deepCopy(t api.Tree) api.Tree {
	t.Body = deepCopies(t.Body)
	return t
}

func deepCopies(body []api.Stmt) []api.Stmt {
	var list []api.Stmt
	for _, s := range body {
		s.Refs, s.Attrs = append([]api.Ref{}, s.Refs...), append([]api.Attr{}, s.Attrs...)
		s.Body = deepCopies(s.Body)
		list = append(list, s)
	}
	return list
}

// normal returns t with nil for all empty slices, so that reflect.DeepEqual
// compares it with others.
func normal(t api.Tree) api.Tree {
	t.Body = normalBody(t.Body)
	return t
}

func normalBody(body []api.Stmt) []api.Stmt {
	var list []api.Stmt
	for _, s := range body {
		s.Refs, s.Attrs = append([]api.Ref(nil), s.Refs...), append([]api.Attr(nil), s.Attrs...)
		s.Body = normalBody(s.Body)
		list = append(list, s)
	}
	return list
}

// same reports whether a and b are equal, by reflection.
func same(a, b api.Tree) bool {
	return reflect.DeepEqual(normal(a), normal(b))
}

// placed is a statement with the statements that contain it, from the outside.
type placed struct {
	api.Stmt
	inside []api.Stmt
}

// level returns how many clusters contain p.
func (p placed) level() int {
	n := 0
	for _, s := range p.inside {
		if s.Kind == api.SCluster {
			n++
		}
	}
	return n
}

// preorder returns the statements of t in preorder; it keeps a stack of those
// that are still to come.
func preorder(t api.Tree) []placed {
	list, stack := []placed{}, []placed{}
	push := func(body, inside []api.Stmt) {
		for _, s := range slices.Backward(body) {
			stack = append(stack, placed{s, inside})
		}
	}
	push(t.Body, nil)
	for len(stack) > 0 {
		p := stack[len(stack)-1]
		stack = stack[:len(stack)-1]
		list = append(list, p)
		push(p.Body, append(slices.Clone(p.inside), p.Stmt))
	}
	return list
}

var (
	wordForm    = regexp.MustCompile(`^[a-zA-Z_][a-zA-Z0-9_]{0,15}$`)
	keywordForm = regexp.MustCompile(`^(?:digraph|graph|node|edge|set|cluster)$`)
	valueForm   = regexp.MustCompile(`^[ -~]*$`)
)

func isName(s string) bool {
	return !strings.HasSuffix(s, "\n") && wordForm.MatchString(s) && !keywordForm.MatchString(s)
}

// wantedValid returns what the chapter says of t: the first of all errors.
func wantedValid(t api.Tree) api.Errno {
	list := preorder(t)
	errors := []api.Errno{}
	fail := func(failed bool, err api.Errno) {
		if failed {
			errors = append(errors, err)
		}
	}
	fail(!isName(t.Name), api.ErrName)
	fail(len(list) > statements, api.ErrLimit)
	for _, p := range list {
		errors = append(errors, wantedErrors(p)...)
	}
	return append(errors, api.OK)[0]
}

// wantedErrors returns all errors of one statement, in the order of the chapter.
func wantedErrors(p placed) []api.Errno {
	errors := []api.Errno{}
	fail := func(failed bool, err api.Errno) {
		if failed {
			errors = append(errors, err)
		}
	}
	used := map[int]string{api.SNode: "NA", api.SEdge: "RA", api.SDefault: "NA", api.SSet: "NA", api.SCluster: "NB"}[p.Kind]
	fail(used == "", api.ErrArg)
	fail(p.Name != "" && !strings.Contains(used, "N"), api.ErrArg)
	fail(len(p.Refs) > 0 && !strings.Contains(used, "R"), api.ErrArg)
	fail(len(p.Attrs) > 0 && !strings.Contains(used, "A"), api.ErrArg)
	fail(len(p.Body) > 0 && !strings.Contains(used, "B"), api.ErrArg)
	fail(p.Kind == api.SDefault && p.Name != "node" && p.Name != "edge", api.ErrArg)
	fail(p.Kind == api.SEdge && len(p.Refs) < 2, api.ErrArg)
	fail(p.Kind == api.SSet && len(p.Attrs) != 1, api.ErrArg)
	fail(p.Kind == api.SSet && len(p.Attrs) == 1 && p.Attrs[0].Key != "", api.ErrArg)
	fail(p.Kind == api.SCluster && p.level() >= depth, api.ErrLimit)
	fail((p.Kind == api.SNode || p.Kind == api.SSet || p.Kind == api.SCluster) && !isName(p.Name), api.ErrName)
	for _, r := range p.Refs {
		fail(!isName(r.Node), api.ErrName)
		fail(r.Port != "" && !isName(r.Port), api.ErrName)
	}
	fail(len(p.Attrs) > most, api.ErrLimit)
	keys := map[string]int{}
	for _, a := range p.Attrs {
		fail(p.Kind != api.SSet && !isName(a.Key), api.ErrName)
		fail(keys[a.Key] > 0, api.ErrDup)
		fail(len(a.Val) > label, api.ErrLimit)
		fail(strings.Contains(a.Val, "\n") || !valueForm.MatchString(a.Val), api.ErrValue)
		keys[a.Key]++
	}
	return errors
}

// wantedDepth returns what the chapter says of the depth of t.
func wantedDepth(t api.Tree) int {
	greatest := 0
	for _, p := range preorder(t) {
		if p.Kind == api.SCluster {
			greatest = max(greatest, p.level()+1)
		}
	}
	return greatest
}

// wantedNames returns what the chapter says of the names of nodes of a tree.
func wantedNames(t api.Tree) []string {
	names := []string{}
	add := func(s string) {
		if !slices.Contains(names, s) {
			names = append(names, s)
		}
	}
	if wantedValid(t) != api.OK {
		return names
	}
	for _, p := range preorder(t) {
		switch p.Kind {
		case api.SNode:
			add(p.Name)
		case api.SEdge:
			for _, r := range p.Refs {
				add(r.Node)
			}
		}
	}
	return names
}

// wantedClusters returns what the chapter says of the clusters of a tree.
func wantedClusters(t api.Tree) []string {
	names := []string{}
	if wantedValid(t) != api.OK {
		return names
	}
	for _, p := range preorder(t) {
		if p.Kind == api.SCluster {
			names = append(names, p.Name)
		}
	}
	return names
}

// wantedRename returns what the chapter says of Rename.
func wantedRename(t api.Tree, from, to string) (api.Tree, api.Errno) {
	names := wantedNames(t)
	switch {
	case wantedValid(t) != api.OK:
		return api.Tree{}, api.ErrArg
	case !isName(from) || !isName(to):
		return api.Tree{}, api.ErrName
	case !slices.Contains(names, from):
		return api.Tree{}, api.ErrNone
	case slices.Contains(names, to), slices.Contains(wantedClusters(t), to):
		return api.Tree{}, api.ErrDup
	}
	t = deepCopy(t)
	replaceNode(t.Body, from, to)
	return t, api.OK
}

// replaceNode renames a node in a body of a valid tree.
func replaceNode(body []api.Stmt, from, to string) {
	for i := range body {
		if body[i].Kind == api.SNode && body[i].Name == from {
			body[i].Name = to
		}
		for j := range body[i].Refs {
			if body[i].Refs[j].Node == from {
				body[i].Refs[j].Node = to
			}
		}
		replaceNode(body[i].Body, from, to)
	}
}

// generator makes random trees; one part in faults is what no valid tree has,
// and none if faults is 0.
type generator struct {
	*rand.Rand
	faults int
}

func (g generator) faulty() bool {
	return g.faults > 0 && g.IntN(g.faults) == 0
}

func (g generator) pick(l ...string) string {
	return l[g.IntN(len(l))]
}

func (g generator) name() string {
	if g.faulty() {
		return g.pick("", "node", "cluster", "1", "a b", "é", "abcdefghijklmnopq")
	}
	return g.pick("a", "b", "c", "d", "_e1", "Node", "abcdefghijklmnop")
}

func (g generator) kind() int {
	if g.faulty() {
		return []int{0, -1, 6, 7, math.MaxInt, math.MinInt}[g.IntN(6)]
	}
	return 1 + g.IntN(5)
}

func (g generator) attrs() []api.Attr {
	l := []api.Attr{}
	for _, i := range g.Perm(4)[:g.IntN(4)] {
		key, val := string(rune('a'+i)), g.pick("", "a", "x y", "-1.5", `"\`, strings.Repeat("~", label))
		if g.faulty() {
			key = g.pick("a", "b", g.name())
		}
		if g.faulty() {
			val = g.pick("\n", "é", "a\x7f", strings.Repeat("y", label+1), strings.Repeat("\t", label+1))
		}
		l = append(l, attr(key, val))
	}
	if g.faulty() {
		return attrs(most + 1)
	}
	return l
}

func (g generator) refs() []api.Ref {
	l := []api.Ref{}
	for range 2 + g.IntN(3) {
		l = append(l, ref(g.name(), g.pick("", "", g.name())))
	}
	if g.faulty() {
		return l[:g.IntN(2)]
	}
	return l
}

// stmt returns a statement with a body of up to so many levels.
func (g generator) stmt(levels int) api.Stmt {
	s := api.Stmt{Kind: g.kind()}
	switch s.Kind {
	case api.SNode:
		s = node(g.name(), g.attrs()...)
	case api.SEdge:
		s = edge(g.refs()...)
		s.Attrs = g.attrs()
	case api.SDefault:
		s = defaults(g.pick("node", "edge"), g.attrs()...)
	case api.SSet:
		s = set(g.name(), g.pick("a", "", "7"))
	case api.SCluster:
		if levels == 0 && !g.faulty() {
			return node(g.name())
		}
		s = cluster(g.name(), g.body(levels-1)...)
	}
	if g.faulty() {
		g.spoil(&s)
	}
	return s
}

// spoil gives s a field that may not suit its kind.
func (g generator) spoil(s *api.Stmt) {
	switch g.IntN(5) {
	case 0:
		s.Name = g.pick("", "set", "node", g.name())
	case 1:
		s.Refs = g.refs()
	case 2:
		s.Attrs = g.attrs()
	case 3:
		s.Body = []api.Stmt{node("a"), cluster("b")}
	case 4:
		s.Kind = g.kind()
	}
}

func (g generator) body(levels int) []api.Stmt {
	list := []api.Stmt{}
	for range g.IntN(5) {
		list = append(list, g.stmt(max(levels, 0)))
	}
	return list
}

func (g generator) tree() api.Tree {
	return api.Tree{Name: g.name(), Directed: g.IntN(2) == 0, Body: g.body(depth)}
}

// P7.1: each rule with what just keeps and what just breaks it.
func TestValid(t *testing.T) {
	long := strings.Repeat("x", label)
	for i, c := range []struct {
		tree api.Tree
		want api.Errno
	}{
		{sample(), api.OK},
		{of(), api.OK},
		{of(chain("a", "b")), api.OK},
		{of(chain("a")), api.ErrArg},
		{of(chain()), api.ErrArg},
		{api.Tree{}, api.ErrName},
		{api.Tree{Name: "graph"}, api.ErrName},
		{api.Tree{Name: "1"}, api.ErrName},
		{api.Tree{Name: "abcdefghijklmnop"}, api.OK},
		{api.Tree{Name: "abcdefghijklmnopq"}, api.ErrName},
		{of(api.Stmt{}), api.ErrArg},
		{of(api.Stmt{Kind: -1, Name: "a"}), api.ErrArg},
		{of(api.Stmt{Kind: 6, Name: "a"}), api.ErrArg},
		{of(api.Stmt{Kind: math.MinInt, Name: "a"}), api.ErrArg},
		{of(api.Stmt{Kind: 1<<32 + 1, Name: "a"}), api.ErrArg},
		{of(node("node")), api.ErrName},
		{of(node("")), api.ErrName},
		{of(node("a b")), api.ErrName},
		{of(defaults("node")), api.OK},
		{of(defaults("edge", attrs(most)...)), api.OK},
		{of(defaults("")), api.ErrArg},
		{of(defaults("cluster")), api.ErrArg},
		{of(defaults("a")), api.ErrArg},
		{of(defaults("Node")), api.ErrArg},
		{of(defaults("edge", attrs(most+1)...)), api.ErrLimit},
		{of(set("mode", "")), api.OK},
		{of(set("mode", long)), api.OK},
		{of(set("mode", long+"x")), api.ErrLimit},
		{of(set("mode", "\n")), api.ErrValue},
		{of(set("set", "a")), api.ErrName},
		{of(set("", "a")), api.ErrName},
		{of(api.Stmt{Kind: api.SSet, Name: "mode"}), api.ErrArg},
		{of(api.Stmt{Kind: api.SSet, Name: "mode", Attrs: []api.Attr{{}, {}}}), api.ErrArg},
		{of(api.Stmt{Kind: api.SSet, Name: "mode", Attrs: attrs(1)}), api.ErrArg},
		{of(cluster("c")), api.OK},
		{of(cluster("c", cluster("c"), cluster("c"))), api.OK},
		{of(cluster("")), api.ErrName},
		{of(cluster("cluster")), api.ErrName},
		{of(nested(depth, node("a"))...), api.OK},
		{of(nested(depth + 1)...), api.ErrLimit},
		{of(nested(depth, set("a", "b"), chain("a", "b"), defaults("node"), cluster("d"))...), api.ErrLimit},
		{of(append(nested(depth), nested(depth)...)...), api.OK},
		{of(edge(ref("a", "p"), ref("a", ""))), api.OK},
		{of(edge(ref("a", ""), ref("edge", ""))), api.ErrName},
		{of(edge(ref("", "p"), ref("a", ""))), api.ErrName},
		{of(edge(ref("a", ""), ref("b", "set"))), api.ErrName},
		{of(edge(ref("a", ""), ref("b", "1"), ref("c", ""))), api.ErrName},
		{of(node("a", attrs(most)...)), api.OK},
		{of(node("a", attrs(most+1)...)), api.ErrLimit},
		{of(node("a", append(attrs(most), attr("ka", ""))...)), api.ErrLimit},
		{of(node("a", append(attrs(most-1), attr("ka", ""))...)), api.ErrDup},
		{of(node("a", attr("x", "1"), attr("y", "1"), attr("x", "1"))), api.ErrDup},
		{of(node("a", attr("x", ""), attr("X", ""))), api.OK},
		{of(node("a", attr("", ""))), api.ErrName},
		{of(node("a", attr("node", ""))), api.ErrName},
		{of(defaults("node", attr("", ""))), api.ErrName},
		{of(with(chain("a", "b"), func(s *api.Stmt) { s.Attrs = attrs(most) })), api.OK},
		{of(with(chain("a", "b"), func(s *api.Stmt) { s.Attrs = attrs(most + 1) })), api.ErrLimit},
		{of(with(chain("a", "b"), func(s *api.Stmt) { s.Attrs = []api.Attr{attr("", "")} })), api.ErrName},
		{of(node("a", attr("x", long))), api.OK},
		{of(node("a", attr("x", long+"x"))), api.ErrLimit},
		{of(node("a", attr("x", strings.Repeat("x", 1<<16)))), api.ErrLimit},
		{of(node("a", attr("x", "a\x00"))), api.ErrValue},
	} {
		if got := tree.Valid(c.tree); got != c.want {
			t.Errorf("%d: Valid(%v) = %d; want %d", i, c.tree, got, c.want)
		}
		if got := wantedValid(c.tree); got != c.want {
			t.Errorf("%d: the reference says %d; want %d", i, got, c.want)
		}
	}
}

// P7.1: a field that its kind does not use.
func TestValidFields(t *testing.T) {
	fill := map[string]func(s *api.Stmt){
		"Name":  func(s *api.Stmt) { s.Name = "a" },
		"Refs":  func(s *api.Stmt) { s.Refs = []api.Ref{{Node: "a"}, {Node: "b"}} },
		"Attrs": func(s *api.Stmt) { s.Attrs = []api.Attr{{Key: "k"}} },
		"Body":  func(s *api.Stmt) { s.Body = []api.Stmt{node("b")} },
	}
	empty := map[string]func(s *api.Stmt){
		"Refs":  func(s *api.Stmt) { s.Refs = make([]api.Ref, 0, 3) },
		"Attrs": func(s *api.Stmt) { s.Attrs = make([]api.Attr, 0, 3) },
		"Body":  func(s *api.Stmt) { s.Body = make([]api.Stmt, 0, 3) },
	}
	for _, c := range []struct {
		stmt   api.Stmt
		unused []string
	}{
		{node("a"), []string{"Refs", "Body"}},
		{chain("a", "b"), []string{"Name", "Body"}},
		{defaults("node"), []string{"Refs", "Body"}},
		{set("mode", "tidy"), []string{"Refs", "Body"}},
		{cluster("c"), []string{"Refs", "Attrs"}},
	} {
		for _, field := range c.unused {
			if got := tree.Valid(of(with(c.stmt, fill[field]))); got != api.ErrArg {
				t.Errorf("kind %d with %s: %d", c.stmt.Kind, field, got)
			}
			if clear := empty[field]; clear != nil && tree.Valid(of(with(c.stmt, clear))) != api.OK {
				t.Errorf("kind %d with empty %s is valid", c.stmt.Kind, field)
			}
		}
	}
}

// P7.1: every byte in a name, in a port, in a key, and in a value.
func TestValidBytes(t *testing.T) {
	for i := range 256 {
		c := string([]byte{byte(i)})
		for _, s := range []string{c, "x" + c, c + "x", "x" + c + "\xc3\xa9"} {
			for _, x := range []api.Tree{
				{Name: s},
				of(node(s)),
				of(set(s, "a")),
				of(cluster(s)),
				of(chain("a", s)),
				of(edge(ref("a", s), ref("b", ""))),
				of(node("a", attr(s, "v"))),
				of(node("a", attr("k", s))),
				of(set("a", s)),
				of(set("a", s+"\n")),
			} {
				if got, want := tree.Valid(x), wantedValid(x); got != want {
					t.Errorf("with %q: Valid(%v) = %d; want %d", s, x, got, want)
				}
			}
		}
	}
	if tree.Valid(of(set("a", " "))) != api.OK || tree.Valid(of(set("a", "~"))) != api.OK || tree.Valid(of(set("a", "\x1f"))) != api.ErrValue || tree.Valid(of(set("a", "\x7f"))) != api.ErrValue {
		t.Error("the first and the last byte of a value")
	}
}

// fault is an error of a statement, and what leads to it.
type fault struct {
	err    api.Errno
	breaks func(s *api.Stmt)
}

// nodeFaults returns faults of a node, the first one first. The keys of its
// attributes are spoiled later than their number.
func nodeFaults() []fault {
	return []fault{
		{api.ErrArg, func(s *api.Stmt) { s.Refs = chain("1", "node").Refs }},
		{api.ErrName, func(s *api.Stmt) { s.Name = "a b" }},
		{api.ErrLimit, func(s *api.Stmt) { s.Attrs = append(s.Attrs, attrs(most)...) }},
		{api.ErrName, func(s *api.Stmt) { s.Attrs[0].Key = "1" }},
		{api.ErrLimit, func(s *api.Stmt) { s.Attrs[0].Val = strings.Repeat("\n", label+1) }},
		{api.ErrValue, func(s *api.Stmt) { s.Attrs[1].Val = "\n" }},
		{api.ErrDup, func(s *api.Stmt) { s.Attrs[2].Key = s.Attrs[1].Key }},
		{api.ErrLimit, func(s *api.Stmt) { s.Attrs[2].Val = strings.Repeat("\n", label+1) }},
		{api.ErrName, func(s *api.Stmt) { s.Attrs[3].Key = "" }},
		{api.ErrDup, func(s *api.Stmt) { s.Attrs[4].Key, s.Attrs[4].Val = s.Attrs[1].Key, "\n" }},
		{api.ErrValue, func(s *api.Stmt) { s.Attrs[5].Val = "\x7f" }},
	}
}

// P7.1: of any two faults of one statement the first one counts.
func TestValidOrder(t *testing.T) {
	faults := nodeFaults()
	for i, first := range faults {
		for _, second := range faults[i:] {
			s := node("a", attr("p", "1"), attr("q", "2"), attr("r", "3"), attr("s", "4"), attr("t", "5"), attr("u", "6"))
			second.breaks(&s)
			first.breaks(&s)
			if got := tree.Valid(of(s)); got != first.err {
				t.Errorf("Valid with %v = %d; want %d", s, got, first.err)
			}
			for _, x := range []api.Tree{of(node("a"), s, api.Stmt{}), of(cluster("c", node("b"), s), api.Stmt{}), of(cluster("c"), s, cluster("1"))} {
				if got := tree.Valid(x); got != first.err {
					t.Errorf("Valid(%v) = %d; want %d", x, got, first.err)
				}
			}
		}
	}
}

// P7.1: the order of the other kinds' errors, and of those of several statements.
func TestValidOrderOfStatements(t *testing.T) {
	many := slices.Repeat([]api.Stmt{node("a")}, statements+1)
	long := strings.Repeat("\n", label+1)
	for i, c := range []struct {
		tree api.Tree
		want api.Errno
	}{
		{api.Tree{Body: many}, api.ErrName},
		{api.Tree{Name: "1", Body: []api.Stmt{{}}}, api.ErrName},
		{of(slices.Concat([]api.Stmt{{}}, many[1:])...), api.ErrLimit},
		{of(slices.Concat([]api.Stmt{node("1")}, many[2:])...), api.ErrName},
		{of(node("1"), api.Stmt{}), api.ErrName},
		{of(api.Stmt{}, node("1")), api.ErrArg},
		{of(cluster("1", api.Stmt{}), node("a")), api.ErrName},
		{of(cluster("c", api.Stmt{}), node("1")), api.ErrArg},
		{of(cluster("c", node("a"), cluster("d", node("1"))), api.Stmt{}), api.ErrName},
		{of(nested(depth, api.Stmt{Kind: api.SCluster, Name: "1"})...), api.ErrLimit},
		{of(nested(depth, api.Stmt{Kind: api.SCluster, Name: "c", Attrs: attrs(1)})...), api.ErrArg},
		{of(nested(depth, cluster("1", api.Stmt{}))...), api.ErrLimit},
		{of(nested(depth, node("1"), cluster("c"))...), api.ErrName},
		{of(with(chain("1"), func(s *api.Stmt) { s.Attrs = attrs(most + 1) })), api.ErrArg},
		{of(with(chain("a", "1"), func(s *api.Stmt) { s.Attrs = attrs(most + 1) })), api.ErrName},
		{of(with(chain("a", "b"), func(s *api.Stmt) { s.Attrs = []api.Attr{attr("1", long)} })), api.ErrName},
		{of(with(set("1", long), func(s *api.Stmt) { s.Attrs[0].Key = "k" })), api.ErrArg},
		{of(set("1", long)), api.ErrName},
		{of(set("a", long)), api.ErrLimit},
		{of(defaults("set", attr("1", long))), api.ErrArg},
		{of(defaults("node", attr("1", long))), api.ErrName},
		{of(with(node("1"), func(s *api.Stmt) { s.Body = []api.Stmt{{}} })), api.ErrArg},
	} {
		if got := tree.Valid(c.tree); got != c.want {
			t.Errorf("%d: Valid = %d; want %d", i, got, c.want)
		}
		if got := wantedValid(c.tree); got != c.want {
			t.Errorf("%d: the reference says %d; want %d", i, got, c.want)
		}
	}
}

// P7.1, P7.6: trees with the most statements, side by side and nested.
func TestValidStatements(t *testing.T) {
	fill := func(n int) []api.Stmt { return slices.Repeat([]api.Stmt{node("a")}, n) }
	for _, extra := range []int{0, 1} {
		want := []api.Errno{api.OK, api.ErrLimit}[extra]
		for i, x := range []api.Tree{
			of(fill(statements + extra)...),
			of(cluster("c", fill(statements-1+extra)...)),
			of(append(nested(depth, fill(statements-2*depth+extra)...), nested(depth)...)...),
			of(append(fill(statements-2), cluster("c", fill(1+extra)...))...),
			of(slices.Repeat([]api.Stmt{cluster("c", node("a"))}, statements/2)...),
		} {
			if i == 4 && extra == 1 {
				x.Body = append(x.Body, set("a", ""))
			}
			if got := tree.Valid(x); got != want || tree.Count(x) != statements+extra {
				t.Errorf("%d: Valid of %d statements = %d; want %d", i, tree.Count(x), got, want)
			}
		}
	}
}

// P7.1 to P7.4: random trees, valid and not, against the reference.
func TestRandomTrees(t *testing.T) {
	random := rand.New(rand.NewPCG(7, 1))
	seen := map[api.Errno]int{}
	for i := range 20000 {
		g := generator{random, []int{0, 25, 100, 400}[i%4]}
		x := g.tree()
		want := wantedValid(x)
		seen[want]++
		if got := tree.Valid(x); got != want {
			t.Fatalf("Valid(%v) = %d; want %d", x, got, want)
		}
		if got, want := tree.Count(x), len(preorder(x)); got != want {
			t.Fatalf("Count(%v) = %d; want %d", x, got, want)
		}
		if got, want := tree.Depth(x), wantedDepth(x); got != want {
			t.Fatalf("Depth(%v) = %d; want %d", x, got, want)
		}
		if got, want := tree.Names(x), wantedNames(x); !slices.Equal(got, want) {
			t.Fatalf("Names(%v) = %q; want %q", x, got, want)
		}
		if got, want := tree.Clusters(x), wantedClusters(x); !slices.Equal(got, want) {
			t.Fatalf("Clusters(%v) = %q; want %q", x, got, want)
		}
		g.faults = 20
		from, to := g.name(), g.pick("z", "z", g.name())
		before := deepCopy(x)
		wantTree, wantErr := wantedRename(x, from, to)
		if got, err := tree.Rename(x, from, to); err != wantErr || !same(got, wantTree) {
			t.Fatalf("Rename(%v, %q, %q) = %v, %d; want %v, %d", x, from, to, got, err, wantTree, wantErr)
		}
		if !same(x, before) {
			t.Fatalf("the argument %v became %v", before, x)
		}
	}
	for _, err := range []api.Errno{api.OK, api.ErrArg, api.ErrLimit, api.ErrName, api.ErrDup, api.ErrValue} {
		if seen[err] < 50 {
			t.Errorf("only %d of the trees lead to %d", seen[err], err)
		}
	}
}

// P7.2: each field, at each level.
func TestEqual(t *testing.T) {
	changes := map[string]func(t *api.Tree){
		"the name":             func(t *api.Tree) { t.Name = "h" },
		"the direction":        func(t *api.Tree) { t.Directed = false },
		"no statements":        func(t *api.Tree) { t.Body = nil },
		"one less":             func(t *api.Tree) { t.Body = t.Body[:len(t.Body)-1] },
		"the first one less":   func(t *api.Tree) { t.Body = t.Body[1:] },
		"one more":             func(t *api.Tree) { t.Body = append(t.Body, api.Stmt{}) },
		"another order":        func(t *api.Tree) { t.Body[0], t.Body[6] = t.Body[6], t.Body[0] },
		"a kind":               func(t *api.Tree) { t.Body[1].Kind = api.SDefault },
		"a statement's name":   func(t *api.Tree) { t.Body[0].Name = "A" },
		"a ref's node":         func(t *api.Tree) { t.Body[3].Refs[2].Node = "" },
		"a ref's port":         func(t *api.Tree) { t.Body[3].Refs[0].Port = "" },
		"the order of refs":    func(t *api.Tree) { slices.Reverse(t.Body[3].Refs) },
		"one ref less":         func(t *api.Tree) { t.Body[3].Refs = t.Body[3].Refs[:2] },
		"refs where none were": func(t *api.Tree) { t.Body[0].Refs = make([]api.Ref, 1) },
		"a key":                func(t *api.Tree) { t.Body[0].Attrs[1].Key = "x" },
		"a value":              func(t *api.Tree) { t.Body[1].Attrs[0].Val = "Tidy" },
		"the order of keys":    func(t *api.Tree) { slices.Reverse(t.Body[0].Attrs) },
		"one attribute more":   func(t *api.Tree) { t.Body[2].Attrs = attrs(1) },
		"one attribute less":   func(t *api.Tree) { t.Body[0].Attrs = t.Body[0].Attrs[:1] },
		"an empty body":        func(t *api.Tree) { t.Body[4].Body = nil },
		"a body where no was":  func(t *api.Tree) { t.Body[0].Body = make([]api.Stmt, 1) },
		"an inner name":        func(t *api.Tree) { t.Body[4].Body[1].Body[0].Name = "" },
		"an inner kind":        func(t *api.Tree) { t.Body[4].Body[1].Body[0].Kind = 0 },
		"an inner ref":         func(t *api.Tree) { t.Body[4].Body[1].Body[1].Refs[1].Port = "p" },
		"an inner attribute":   func(t *api.Tree) { t.Body[4].Body[0].Attrs[0].Val += " " },
		"an inner order":       func(t *api.Tree) { slices.Reverse(t.Body[4].Body[1].Body) },
		"one inner one less":   func(t *api.Tree) { t.Body[4].Body[1].Body = t.Body[4].Body[1].Body[:1] },
		"another nesting": func(t *api.Tree) {
			inner := t.Body[4].Body[1].Body
			t.Body[4].Body[1].Body = inner[:1:1]
			t.Body[4].Body = append(t.Body[4].Body, inner[1])
		},
	}
	a := deepCopy(sample())
	if !tree.Equal(a, sample()) || !tree.Equal(sample(), a) || !tree.Equal(a, a) {
		t.Fatal("equal trees")
	}
	for what, change := range changes {
		b := deepCopy(sample())
		change(&b)
		if tree.Equal(a, b) || tree.Equal(b, a) {
			t.Errorf("trees that differ in %s are not equal", what)
		}
		if !tree.Equal(b, deepCopy(b)) {
			t.Errorf("a tree with another value of %s equals itself", what)
		}
	}
}

// P7.2, 0.4, 0.8: empty slices, and what lies behind the end of a slice.
func TestEqualSlices(t *testing.T) {
	bare := of(api.Stmt{Kind: api.SNode, Name: "a"})
	full := of(api.Stmt{Kind: api.SNode, Name: "a", Refs: []api.Ref{}, Attrs: attrs(2)[:0], Body: []api.Stmt{node("b")}[:0]}, node("c"))
	full.Body = full.Body[:1]
	if !tree.Equal(bare, full) || !tree.Equal(full, bare) || !tree.Equal(of(), api.Tree{Name: "g", Body: full.Body[:0]}) {
		t.Error("empty slices are equal to nil")
	}
	if !tree.Equal(api.Tree{}, api.Tree{}) || tree.Equal(api.Tree{}, of()) || tree.Equal(api.Tree{}, api.Tree{Body: make([]api.Stmt, 1)}) {
		t.Error("the zero tree equals itself only")
	}
	if tree.Count(full) != 1 || tree.Depth(full) != 0 || tree.Valid(full) != api.OK || !slices.Equal(tree.Names(full), []string{"a"}) {
		t.Errorf("statements behind the end: %d, %d, %d, %q", tree.Count(full), tree.Depth(full), tree.Valid(full), tree.Names(full))
	}
}

// P7.2: random trees, and ones that differ from them in one statement.
func TestEqualRandom(t *testing.T) {
	g := generator{rand.New(rand.NewPCG(7, 2)), 50}
	previous := g.tree()
	for range 5000 {
		x := g.tree()
		if !tree.Equal(x, deepCopy(x)) || tree.Equal(x, previous) != same(x, previous) {
			t.Fatalf("Equal of %v and %v", x, previous)
		}
		changed := deepCopy(x)
		list := pointers(changed.Body)
		if len(list) > 0 {
			g.spoil(list[g.IntN(len(list))])
		}
		if tree.Equal(x, changed) != same(x, changed) || tree.Equal(changed, x) != same(x, changed) {
			t.Fatalf("Equal of %v and %v", x, changed)
		}
		previous = x
	}
}

// pointers returns pointers to the statements of body at every level.
func pointers(body []api.Stmt) []*api.Stmt {
	list := []*api.Stmt{}
	for i := range body {
		list = append(append(list, &body[i]), pointers(body[i].Body)...)
	}
	return list
}

// P7.2: trees that are not valid too, whatever the kinds of the statements.
func TestCountAndDepth(t *testing.T) {
	within := func(kind int, body ...api.Stmt) api.Stmt { return api.Stmt{Kind: kind, Body: body} }
	for _, c := range []struct {
		tree         api.Tree
		count, depth int
	}{
		{api.Tree{}, 0, 0},
		{of(), 0, 0},
		{of(chain("a", "b")), 1, 0},
		{sample(), 12, 2},
		{of(cluster("c")), 1, 1},
		{of(cluster("c"), cluster("d")), 2, 1},
		{of(cluster("c", cluster("d")), cluster("e")), 3, 2},
		{of(cluster("e"), cluster("c", cluster("d", node("a")))), 4, 2},
		{of(nested(40)...), 40, 40},
		{of(api.Stmt{}, api.Stmt{Kind: -5}, node("1")), 3, 0},
		{of(within(api.SNode, node("a"), node("b"))), 3, 0},
		{of(within(api.SNode, cluster("c"))), 2, 1},
		{of(within(api.SCluster, within(api.SEdge, within(99, cluster("c"))))), 4, 2},
		{of(within(0, cluster("c", within(api.SSet, cluster("d"), node("a")), node("b")), cluster("e"))), 7, 2},
		{of(slices.Repeat([]api.Stmt{cluster("c", node("a"))}, 1000)...), 2000, 1},
	} {
		if count, depth := tree.Count(c.tree), tree.Depth(c.tree); count != c.count || depth != c.depth {
			t.Errorf("%v: Count %d, Depth %d; want %d, %d", c.tree, count, depth, c.count, c.depth)
		}
	}
}

// P7.3
func TestNamesAndClusters(t *testing.T) {
	for _, c := range []struct {
		tree            api.Tree
		names, clusters []string
	}{
		{of(), nil, nil},
		{of(chain("a", "b")), []string{"a", "b"}, nil},
		{sample(), []string{"a", "b", "e", "f", "i"}, []string{"c", "d", "h"}},
		{of(chain("b", "a", "b"), node("c"), node("a")), []string{"b", "a", "c"}, nil},
		{of(node("z"), chain("y", "z", "x"), node("a")), []string{"z", "y", "x", "a"}, nil},
		{of(edge(ref("a", "p"), ref("b", "q"))), []string{"a", "b"}, nil},
		{of(set("mode", "tidy"), defaults("node", attr("label", "x"))), nil, nil},
		{of(cluster("b", chain("d", "c")), chain("a", "d")), []string{"d", "c", "a"}, []string{"b"}},
		{of(cluster("a", node("a")), cluster("a", cluster("a"), cluster("b"))), []string{"a"}, []string{"a", "a", "a", "b"}},
		{of(cluster("c1", cluster("c2", node("x")), node("y")), cluster("c3")), []string{"x", "y"}, []string{"c1", "c2", "c3"}},
		{of(chain("a"), cluster("c")), nil, nil},
		{of(node("a"), cluster("c"), node("1")), nil, nil},
		{api.Tree{Body: []api.Stmt{node("a"), cluster("c")}}, nil, nil},
		{of(slices.Repeat([]api.Stmt{node("a"), cluster("c")}, statements)...), nil, nil},
		{of(slices.Repeat([]api.Stmt{node("a"), cluster("c")}, statements/2)...), []string{"a"}, slices.Repeat([]string{"c"}, statements/2)},
		{of(nested(depth+1, node("a"))...), nil, nil},
	} {
		if got := tree.Names(c.tree); !slices.Equal(got, c.names) {
			t.Errorf("Names(%v) = %q; want %q", c.tree, got, c.names)
		}
		if got := tree.Clusters(c.tree); !slices.Equal(got, c.clusters) {
			t.Errorf("Clusters(%v) = %q; want %q", c.tree, got, c.clusters)
		}
	}
}

// P7.3, P7.4: a chain of edges has no limit of its own.
func TestLongChain(t *testing.T) {
	nodes := []string{}
	for i := range 1 << 16 {
		nodes = append(nodes, "n"+strings.Repeat("x", i%8)+string([]byte{byte('a' + i>>12), byte('a' + i>>8&15), byte('a' + i>>4&15), byte('a' + i&15)}))
	}
	x := of(chain(append(slices.Clone(nodes), nodes...)...))
	if got := tree.Names(x); !slices.Equal(got, nodes) {
		t.Errorf("%d names; want %d", len(got), len(nodes))
	}
	last := len(nodes) - 1
	y, err := tree.Rename(x, nodes[last], "z")
	if err != api.OK || len(y.Body) != 1 || len(y.Body[0].Refs) != 2*len(nodes) || y.Body[0].Refs[last].Node != "z" || y.Body[0].Refs[2*last+1].Node != "z" || y.Body[0].Refs[last-1].Node != nodes[last-1] {
		t.Errorf("Rename of the last one of a long chain: %d", err)
	}
}

// P7.4: only nodes are renamed, in all statements.
func TestRename(t *testing.T) {
	x := of(
		node("a", attr("a", "a"), attr("label", "a")),
		set("a", "a"),
		edge(ref("b", "a"), ref("a", "a"), ref("a", ""), ref("ab", "p")),
		defaults("node", attr("a", "a")),
		cluster("a", node("A"), node("a"), cluster("c", chain("a", "a"), node("aa"))),
		node("a"),
	)
	want := of(
		node("z", attr("a", "a"), attr("label", "a")),
		set("a", "a"),
		edge(ref("b", "a"), ref("z", "a"), ref("z", ""), ref("ab", "p")),
		defaults("node", attr("a", "a")),
		cluster("a", node("A"), node("z"), cluster("c", chain("z", "z"), node("aa"))),
		node("z"),
	)
	for _, directed := range []bool{false, true} {
		x.Directed, want.Directed = directed, directed
		before := deepCopy(x)
		if got, err := tree.Rename(x, "a", "z"); err != api.OK || !same(got, want) {
			t.Errorf("Rename = %v, %d; want %v", got, err, want)
		}
		if !same(x, before) {
			t.Errorf("the argument became %v", x)
		}
	}
	for _, to := range []string{"p", "label", "g", "a1", "abcdefghijklmnop"} {
		if _, err := tree.Rename(x, "a", to); err != api.OK {
			t.Errorf("Rename to %q, which is no node and no cluster: %d", to, err)
		}
	}
}

// P7.4: the errors, in their order, without a tree.
func TestRenameErrors(t *testing.T) {
	x := of(chain("a", "b"), cluster("c", node("d"), cluster("e")))
	for _, c := range []struct {
		tree     api.Tree
		from, to string
		want     api.Errno
	}{
		{of(chain("a", "b")), "a", "b", api.ErrDup},
		{of(chain("a", "b")), "c", "d", api.ErrNone},
		{of(chain("a")), "a", "z", api.ErrArg},
		{of(chain("a")), "1", "2", api.ErrArg},
		{api.Tree{}, "a", "b", api.ErrArg},
		{of(nested(depth+1, node("a"))...), "a", "z", api.ErrArg},
		{of(slices.Repeat([]api.Stmt{node("a")}, statements+1)...), "a", "z", api.ErrArg},
		{x, "", "z", api.ErrName},
		{x, "a", "", api.ErrName},
		{x, "a", "node", api.ErrName},
		{x, "set", "z", api.ErrName},
		{x, "z", "1", api.ErrName},
		{x, "1", "a", api.ErrName},
		{x, "a", "abcdefghijklmnopq", api.ErrName},
		{x, "z", "y", api.ErrNone},
		{x, "z", "a", api.ErrNone},
		{x, "z", "z", api.ErrNone},
		{x, "z", "c", api.ErrNone},
		{x, "c", "z", api.ErrNone},
		{x, "c", "c", api.ErrNone},
		{x, "g", "z", api.ErrNone},
		{x, "A", "z", api.ErrNone},
		{x, "a", "b", api.ErrDup},
		{x, "a", "a", api.ErrDup},
		{x, "b", "d", api.ErrDup},
		{x, "d", "a", api.ErrDup},
		{x, "a", "c", api.ErrDup},
		{x, "a", "e", api.ErrDup},
		{of(), "a", "b", api.ErrNone},
		{of(cluster("c", node("c"))), "c", "c", api.ErrDup},
	} {
		got, err := tree.Rename(c.tree, c.from, c.to)
		if err != c.want || !same(got, api.Tree{}) {
			t.Errorf("Rename(%v, %q, %q) = %v, %d; want %d", c.tree, c.from, c.to, got, err, c.want)
		}
	}
}

// P7.4, 0.4, 0.8: the tree that Rename returns shares no memory with its
// argument, also where the argument uses the same memory twice.
func TestRenameNewMemory(t *testing.T) {
	body := []api.Stmt{node("a", attrs(2)...), edge(ref("a", "p"), ref("b", "")), cluster("d"), node("1")}
	x := of(cluster("c", body[:3]...), cluster("c", body[:3]...), node("a", body[0].Attrs...), edge(body[1].Refs...))
	before := deepCopy(x)
	y, err := tree.Rename(x, "a", "z")
	want, _ := wantedRename(x, "a", "z")
	if err != api.OK || !same(y, want) {
		t.Fatalf("Rename = %v, %d; want %v", y, err, want)
	}
	scramble(y.Body[:1:1])
	if !same(x, before) || !same(of(y.Body[1:]...), of(want.Body[1:]...)) || body[3].Name != "1" {
		t.Errorf("after a change of the result's first statement: the argument %v, the others %v", x, y.Body[1:])
	}
	y, _ = tree.Rename(x, "a", "z")
	scramble(x.Body)
	if !same(y, want) {
		t.Errorf("after a change of the argument the result is %v; want %v", y, want)
	}
}

// scramble changes all statements of body, with what lies behind the ends of
// their slices.
func scramble(body []api.Stmt) {
	for i := range body[:cap(body)] {
		s := &body[:cap(body)][i]
		scramble(s.Body)
		clear(s.Refs[:cap(s.Refs)])
		clear(s.Attrs[:cap(s.Attrs)])
		*s = api.Stmt{}
	}
}

// 0.4, 0.9: each call returns new memory, and equal results.
func TestNamesNewMemory(t *testing.T) {
	x := sample()
	for _, list := range []func(api.Tree) []string{tree.Names, tree.Clusters} {
		first := list(x)
		want := slices.Clone(first)
		clear(first[:cap(first)])
		if got := list(x); !slices.Equal(got, want) || !same(x, sample()) {
			t.Errorf("the second call returns %q; the first one %q", got, want)
		}
	}
}

// P7.5
func TestRenameConsequences(t *testing.T) {
	g := generator{rand.New(rand.NewPCG(7, 5)), 0}
	renamed, restored := 0, 0
	for range 5000 {
		x := g.tree()
		names, clusters := tree.Names(x), tree.Clusters(x)
		for i, from := range names {
			y, err := tree.Rename(x, from, "z")
			if err != api.OK || tree.Valid(y) != api.OK {
				t.Fatalf("Rename(%v, %q) = %v, %d", x, from, y, err)
			}
			want := slices.Clone(names)
			want[i] = "z"
			if tree.Count(y) != tree.Count(x) || tree.Depth(y) != tree.Depth(x) || !slices.Equal(tree.Clusters(y), clusters) || !slices.Equal(tree.Names(y), want) {
				t.Fatalf("%v with %q renamed is %v", x, from, y)
			}
			renamed++
			back, err := tree.Rename(y, "z", from)
			switch {
			case slices.Contains(clusters, from):
				if err != api.ErrDup {
					t.Fatalf("Rename(%v) back to %q, the name of a cluster: %d", y, from, err)
				}
			case err != api.OK || !tree.Equal(back, x) || !same(back, x):
				t.Fatalf("Rename(%v) back to %q = %v, %d; want %v", y, from, back, err, x)
			default:
				restored++
			}
		}
	}
	if renamed < 1000 || restored < 500 || restored == renamed {
		t.Errorf("of %d renamed trees %d are restored", renamed, restored)
	}
}

// P7.6
func TestParts(t *testing.T) {
	g := generator{rand.New(rand.NewPCG(7, 6)), 0}
	for range 2000 {
		x := g.tree()
		if tree.Valid(x) != api.OK || tree.Depth(x) > depth || tree.Count(x) > statements {
			if tree.Count(x) > statements {
				continue
			}
			t.Fatalf("%v: %d", x, tree.Valid(x))
		}
		bodies := [][]api.Stmt{x.Body}
		for _, p := range preorder(x) {
			bodies = append(bodies, p.Body)
		}
		for _, body := range bodies {
			from := g.IntN(len(body) + 1)
			to := from + g.IntN(len(body)-from+1)
			part := api.Tree{Name: "h", Directed: !x.Directed, Body: body[from:to]}
			if tree.Valid(part) != api.OK || tree.Depth(part) > tree.Depth(x) || tree.Count(part) > tree.Count(x) {
				t.Fatalf("the part %v of %v", part, x)
			}
		}
	}
}

// 0.1: as many levels as inputs may have.
func TestDeepTrees(t *testing.T) {
	const levels = 1 << 16
	for _, kind := range []int{api.SCluster, api.SNode, 0} {
		chainOf := func(name string) api.Tree {
			body := []api.Stmt{node(name)}
			for range levels - 1 {
				body = []api.Stmt{{Kind: kind, Name: "c", Body: body}}
			}
			return of(body...)
		}
		x, y := chainOf("a"), chainOf("b")
		wantDepth := 0
		if kind == api.SCluster {
			wantDepth = levels - 1
		}
		if tree.Count(x) != levels || tree.Depth(x) != wantDepth || !tree.Equal(x, chainOf("a")) || tree.Equal(x, y) {
			t.Errorf("kind %d: Count %d, Depth %d", kind, tree.Count(x), tree.Depth(x))
		}
		if got := tree.Valid(x); got != api.ErrLimit || len(tree.Names(x)) != 0 || len(tree.Clusters(x)) != 0 {
			t.Errorf("kind %d: Valid = %d", kind, got)
		}
		if got, err := tree.Rename(x, "a", "z"); err != api.ErrArg || !same(got, api.Tree{}) {
			t.Errorf("kind %d: Rename: %d", kind, err)
		}
	}
}

// 0.1: trees whose statements are too many to count, as bodies contain
// themselves or the same body several times.
func TestEndlessTrees(t *testing.T) {
	own := []api.Stmt{node("a"), cluster("c")}
	own[1].Body = own
	folded := []api.Stmt{node("a"), node("b")}
	for range 62 {
		folded = []api.Stmt{cluster("c", folded...), cluster("d", folded...)}
	}
	for _, body := range [][]api.Stmt{own, folded} {
		x := of(body...)
		if got := tree.Valid(x); got != api.ErrLimit || len(tree.Names(x)) != 0 || len(tree.Clusters(x)) != 0 {
			t.Errorf("Valid = %d", got)
		}
		if _, err := tree.Rename(x, "a", "z"); err != api.ErrArg {
			t.Errorf("Rename: %d", err)
		}
		if got := tree.Valid(api.Tree{Body: body}); got != api.ErrName {
			t.Errorf("Valid without a name = %d", got)
		}
	}
}
