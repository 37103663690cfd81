package printer_test

import (
	"math/big"
	"math/rand/v2"
	"regexp"
	"slices"
	"strings"
	"testing"

	"layout/api"
	"layout/lexer"
	"layout/printer"
	"layout/tree"
)

const (
	statements = 512
	label      = api.MaxLabel
	most       = api.MaxAttrs
)

// attr returns an attribute.
func attr(key, val string) api.Attr {
	return api.Attr{Key: key, Val: val}
}

// body returns the body of a tree or of a cluster.
func body(list ...api.Stmt) []api.Stmt {
	return list
}

func node(name string, l ...api.Attr) api.Stmt {
	return api.Stmt{Kind: api.SNode, Name: name, Attrs: l}
}

// edge returns a chain of refs, each with what it says before and behind a colon.
func edge(refs []string, l ...api.Attr) api.Stmt {
	s := api.Stmt{Kind: api.SEdge, Attrs: l}
	for _, r := range refs {
		node, port, _ := strings.Cut(r, ":")
		s.Refs = append(s.Refs, api.Ref{Node: node, Port: port})
	}
	return s
}

func defaults(name string, l ...api.Attr) api.Stmt {
	return api.Stmt{Kind: api.SDefault, Name: name, Attrs: l}
}

func set(name, val string) api.Stmt {
	return api.Stmt{Kind: api.SSet, Name: name, Attrs: []api.Attr{attr("", val)}}
}

func cluster(name string, list ...api.Stmt) api.Stmt {
	return api.Stmt{Kind: api.SCluster, Name: name, Body: list}
}

func graph(list ...api.Stmt) api.Tree {
	return api.Tree{Name: "g", Body: list}
}

func digraph(list ...api.Stmt) api.Tree {
	return api.Tree{Name: "g", Directed: true, Body: list}
}

// fullList returns n attributes with the value val.
func fullList(n int, val string) []api.Attr {
	l := []api.Attr{}
	for i := range n {
		l = append(l, attr(strings.Repeat("k", i+1), val))
	}
	return l
}

// sample returns a valid tree with statements of all kinds and with all that
// they may have, and its text.
func sample() (api.Tree, string) {
	t := digraph(
		node("a", attr("height", "10"), attr("label", "x y")),
		edge([]string{"a:p", "b"}),
		set("mode", "tidy"),
		cluster("c",
			node("b"),
			cluster("d", defaults("edge", attr("len", "2")), cluster("e"), edge([]string{"b", "b:q", "c:r"}, attr("weight", "3"), attr("label", `"`))),
			defaults("node"),
			set("title", "a->b"),
		),
		node("z"),
	)
	return t, `digraph g {
    a [height=10, label="x y"];
    a:p -> b;
    set mode = tidy;
    cluster c {
        b;
        cluster d {
            edge [len=2];
            cluster e {
            }
            b -> b:q -> c:r [weight=3, label="\""];
        }
        node [];
        set title = "a->b";
    }
    z;
}
`
}

// The forms of the lines of statements, without the spaces before them, and
// of their parts.
const (
	nameForm  = `[a-zA-Z_][a-zA-Z0-9_]{0,15}`
	valueForm = `(?:[a-zA-Z0-9_.-]+|"(?:[ !#-\[\]-~]|\\["\\])*")`
	attrForm  = nameForm + `=` + valueForm
	listForm  = `\[` + attrForm + `(?:, ` + attrForm + `)*\]`
	refForm   = nameForm + `(?::` + nameForm + `)?`
)

var (
	headForm    = regexp.MustCompile(`^(graph|digraph) (` + nameForm + `) \{$`)
	nodeLine    = regexp.MustCompile(`^(` + nameForm + `)(?: (` + listForm + `))?;$`)
	edgeLine    = regexp.MustCompile(`^(` + refForm + `(?: -[->] ` + refForm + `)+)(?: (` + listForm + `))?;$`)
	defaultLine = regexp.MustCompile(`^(node|edge) (\[\]|` + listForm + `);$`)
	setLine     = regexp.MustCompile(`^set (` + nameForm + `) = (` + valueForm + `);$`)
	clusterLine = regexp.MustCompile(`^cluster (` + nameForm + `) \{$`)
	onePart     = regexp.MustCompile(`(` + nameForm + `)=(` + valueForm + `)`)
	wordForm    = regexp.MustCompile(`^` + nameForm + `$`)
	keywordForm = regexp.MustCompile(`^(?:digraph|graph|node|edge|set|cluster)$`)
	numberForm  = regexp.MustCompile(`^-?(?:0|[1-9][0-9]*)(?:\.[0-9]{0,2}[1-9])?$`)
)

// isPlain reports whether the text of the value val is val itself.
func isPlain(val string) bool {
	if wordForm.MatchString(val) {
		return !keywordForm.MatchString(val)
	}
	if !numberForm.MatchString(val) || val == "-0" {
		return false
	}
	number, _ := new(big.Rat).SetString(val)
	return number.Abs(number).Cmp(big.NewRat(api.MaxCoord, 1000)) <= 0
}

// written returns what the chapter says of the text of a value.
func written(val string) string {
	if isPlain(val) {
		return val
	}
	return `"` + strings.NewReplacer(`\`, `\\`, `"`, `\"`).Replace(val) + `"`
}

// reader restores a tree from its text by the definitions of the chapter, line
// by line. It takes no other form of a line, so that a text from which it
// restores a tree is the text of this tree.
type reader struct {
	t     *testing.T
	lines []string
	arrow string
}

// read returns the tree with the text s.
func read(t *testing.T, s string) api.Tree {
	t.Helper()
	r := reader{t: t, lines: strings.Split(s, "\n")}
	head := headForm.FindStringSubmatch(r.next())
	if head == nil {
		t.Fatalf("the first line of %q", s)
	}
	x := api.Tree{Name: head[2], Directed: head[1] == "digraph"}
	r.arrow = map[bool]string{false: " -- ", true: " -> "}[x.Directed]
	x.Body = r.body(1)
	if len(r.lines) != 1 || r.lines[0] != "" {
		t.Fatalf("%q ends with the lines %q", s, r.lines)
	}
	return x
}

// next returns the next line.
func (r *reader) next() string {
	r.t.Helper()
	if len(r.lines) < 2 {
		r.t.Fatalf("there is no line behind the last line feed")
	}
	line := r.lines[0]
	r.lines = r.lines[1:]
	return line
}

// body reads the lines of statements in so many blocks, and the brace behind them.
func (r *reader) body(level int) []api.Stmt {
	r.t.Helper()
	var list []api.Stmt
	for {
		line := r.next()
		if line == strings.Repeat("    ", level-1)+"}" {
			return list
		}
		rest, ok := strings.CutPrefix(line, strings.Repeat("    ", level))
		if !ok {
			r.t.Fatalf("the spaces before %q", line)
		}
		if m := clusterLine.FindStringSubmatch(rest); m != nil {
			list = append(list, cluster(m[1], r.body(level+1)...))
			continue
		}
		list = append(list, r.statement(rest))
	}
}

// statement returns the statement with this line, which is no cluster.
func (r *reader) statement(line string) api.Stmt {
	r.t.Helper()
	if m := nodeLine.FindStringSubmatch(line); m != nil && !keywordForm.MatchString(m[1]) {
		return node(m[1], r.list(m[2])...)
	}
	if m := edgeLine.FindStringSubmatch(line); m != nil && strings.Count(m[1], r.arrow) == strings.Count(m[1], " ")/2 {
		return edge(strings.Split(m[1], r.arrow), r.list(m[2])...)
	}
	if m := defaultLine.FindStringSubmatch(line); m != nil {
		return defaults(m[1], r.list(m[2])...)
	}
	if m := setLine.FindStringSubmatch(line); m != nil {
		return set(m[1], r.value(m[2]))
	}
	r.t.Fatalf("the line %q", line)
	return api.Stmt{}
}

// list returns the attributes with this text.
func (r *reader) list(s string) []api.Attr {
	r.t.Helper()
	var l []api.Attr
	for _, m := range onePart.FindAllStringSubmatch(s, -1) {
		l = append(l, attr(m[1], r.value(m[2])))
	}
	return l
}

// value returns the value with this text.
func (r *reader) value(s string) string {
	r.t.Helper()
	val := s
	if inner, ok := strings.CutPrefix(s, `"`); ok {
		val = strings.NewReplacer(`\\`, `\`, `\"`, `"`).Replace(inner[:len(inner)-1])
	}
	if written(val) != s {
		r.t.Fatalf("the value %q is written as %s", val, s)
	}
	return val
}

// check compares the text of a tree, valid or not, with what the chapter says.
func check(t *testing.T, x api.Tree) {
	t.Helper()
	text := printer.Print(x)
	if tree.Valid(x) != api.OK {
		if text != "" {
			t.Fatalf("Print(%v), which is not valid, = %q", x, text)
		}
		return
	}
	if got := read(t, text); !tree.Equal(got, x) {
		t.Fatalf("Print(%v) = %q, the text of %v", x, text, got)
	}
	if strings.ContainsFunc(text, func(c rune) bool { return c != '\n' && (c < 32 || c > 126) }) {
		t.Fatalf("P8.3: the bytes of %q", text)
	}
	if got, want := strings.Count(text, "\n"), 2+tree.Count(x)+len(tree.Clusters(x)); got != want {
		t.Fatalf("P8.3: %d lines in %q; want %d", got, text, want)
	}
	if _, line, err := lexer.Tokenize(text); (err == api.OK) != (len(text) <= api.MaxSource) {
		t.Fatalf("P8.3: Tokenize of a text of %d bytes: %d in line %d of %q", len(text), err, line, text)
	}
}

// maker makes random valid trees.
type maker struct{ *rand.Rand }

func (m maker) pick(l ...string) string {
	return l[m.IntN(len(l))]
}

func (m maker) name() string {
	return m.pick("a", "b", "c", "x1", "_", "Node", "digraphs", "abcdefghijklmnop")
}

func (m maker) value() string {
	switch m.IntN(5) {
	case 0:
		return m.name()
	case 1:
		return m.pick("node", "edge", "set", "cluster", "graph", "digraph", "", "abcdefghijklmnopq", "a b", "a, b=c]", `"`, `\`, `\"`, `a="b"`, " ")
	case 2:
		return m.pick("0", "7", "-1", "0.5", "-0.005", "268435.456", "-268435.456", "12.34")
	case 3:
		return m.pick("-0", "1.", ".5", "01", "+1", "1.50", "1.0005", "268435.457", "-268436", "1e3", "--1", "1a")
	}
	val := make([]byte, m.IntN(label+1))
	for i := range val {
		val[i] = byte(32 + m.IntN(95))
	}
	return string(val)
}

// list returns up to four attributes.
func (m maker) list() []api.Attr {
	l := []api.Attr{}
	for _, i := range m.Perm(4)[:m.IntN(5)] {
		l = append(l, attr(string(rune('a'+i)), m.value()))
	}
	return l
}

func (m maker) refs() []string {
	refs := []string{}
	for range 2 + m.IntN(3) {
		refs = append(refs, m.name()+m.pick("", ":"+m.name()))
	}
	return refs
}

// body returns up to four statements, with bodies of up to so many levels.
func (m maker) body(levels int) []api.Stmt {
	list := []api.Stmt{}
	for range m.IntN(5) {
		list = append(list, m.statement(levels))
	}
	return list
}

func (m maker) statement(levels int) api.Stmt {
	switch m.IntN(5) {
	case 0:
		return node(m.name(), m.list()...)
	case 1:
		return edge(m.refs(), m.list()...)
	case 2:
		return defaults(m.pick("node", "edge"), m.list()...)
	case 3:
		return set(m.name(), m.value())
	}
	if levels == 0 {
		return node(m.name())
	}
	return cluster(m.name(), m.body(levels-1)...)
}

func (m maker) tree() api.Tree {
	return api.Tree{Name: m.name(), Directed: m.IntN(2) == 0, Body: m.body(api.MaxDepth)}
}

// spoil changes one part of the tree x, which may make it invalid.
func (m maker) spoil(x *api.Tree) {
	all := inPreorder(x.Body)
	if len(all) == 0 {
		x.Name = m.pick("", "node", m.name())
		return
	}
	s := all[m.IntN(len(all))]
	switch m.IntN(8) {
	case 0:
		s.Name = m.pick("", "node", "edge", "1", m.name())
	case 1:
		s.Kind = m.IntN(8) - 1
	case 2:
		s.Refs = edge(m.refs()).Refs[:m.IntN(3)]
	case 3:
		s.Attrs = m.list()
	case 4:
		s.Body = m.body(1)
	case 5:
		x.Directed = !x.Directed
	case 6:
		for i := range s.Attrs {
			s.Attrs[i].Val = m.pick("\n", "\x7f", "é", strings.Repeat("x", label+1), m.value())
		}
	case 7:
		for i := range s.Refs {
			s.Refs[i].Port = m.pick("", "set", "a b", m.name())
		}
	}
}

// inPreorder returns pointers to the statements of a body at every level.
func inPreorder(list []api.Stmt) []*api.Stmt {
	all := []*api.Stmt{}
	for i := range list {
		all = append(append(all, &list[i]), inPreorder(list[i].Body)...)
	}
	return all
}

// separate returns a copy of x that shares no memory with it.
func separate(x api.Tree) api.Tree {
	x.Body = slices.Clone(x.Body)
	for i := range x.Body {
		s := &x.Body[i]
		s.Refs, s.Attrs = slices.Clone(s.Refs), slices.Clone(s.Attrs)
		s.Body = separate(api.Tree{Body: s.Body}).Body
	}
	return x
}

// P8.1: the chapter's example, and each kind of statement with and without
// what it may have.
func TestPrint(t *testing.T) {
	everything, text := sample()
	for _, c := range []struct {
		tree api.Tree
		want string
	}{
		{everything, text},
		{
			digraph(node("a", attr("height", "10"), attr("label", "x y")), edge([]string{"a:p", "b"}), set("mode", "tidy"), cluster("c", node("b"))),
			"digraph g {\n    a [height=10, label=\"x y\"];\n    a:p -> b;\n    set mode = tidy;\n    cluster c {\n        b;\n    }\n}\n",
		},
		{graph(), "graph g {\n}\n"},
		{digraph(), "digraph g {\n}\n"},
		{api.Tree{Name: "abcdefghijklmnop"}, "graph abcdefghijklmnop {\n}\n"},
		{graph(node("a")), "graph g {\n    a;\n}\n"},
		{graph(node("a"), node("a"), node("g")), "graph g {\n    a;\n    a;\n    g;\n}\n"},
		{digraph(node("a", attr("b", "c"))), "digraph g {\n    a [b=c];\n}\n"},
		{graph(node("a", attr("c", ""), attr("b", "-0.5"), attr("a", "graph"))), "graph g {\n    a [c=\"\", b=-0.5, a=\"graph\"];\n}\n"},
		{graph(edge([]string{"a", "b"})), "graph g {\n    a -- b;\n}\n"},
		{digraph(edge([]string{"a", "b"})), "digraph g {\n    a -> b;\n}\n"},
		{graph(edge([]string{"a:b", "a:a", "a"})), "graph g {\n    a:b -- a:a -- a;\n}\n"},
		{digraph(edge([]string{"a", "a", "b:p", "c"}, attr("label", "->"))), "digraph g {\n    a -> a -> b:p -> c [label=\"->\"];\n}\n"},
		{graph(edge([]string{"a", "b"}, attr("len", "2"), attr("weight", "3"))), "graph g {\n    a -- b [len=2, weight=3];\n}\n"},
		{graph(defaults("node"), defaults("edge")), "graph g {\n    node [];\n    edge [];\n}\n"},
		{graph(defaults("node", attr("width", "2.5")), defaults("edge", attr("a", "edge"))), "graph g {\n    node [width=2.5];\n    edge [a=\"edge\"];\n}\n"},
		{graph(set("set1", "")), "graph g {\n    set set1 = \"\";\n}\n"},
		{digraph(set("a", `x "y"`), set("nodesep", "-3")), "digraph g {\n    set a = \"x \\\"y\\\"\";\n    set nodesep = -3;\n}\n"},
		{graph(cluster("c")), "graph g {\n    cluster c {\n    }\n}\n"},
		{digraph(cluster("c", edge([]string{"a", "b"})), cluster("c")), "digraph g {\n    cluster c {\n        a -> b;\n    }\n    cluster c {\n    }\n}\n"},
		{graph(cluster("c", edge([]string{"a", "b"}))), "graph g {\n    cluster c {\n        a -- b;\n    }\n}\n"},
	} {
		if got := printer.Print(c.tree); got != c.want {
			t.Errorf("Print(%v) =\n%s; want\n%s", c.tree, got, c.want)
		}
		check(t, c.tree)
	}
}

// P8.1: clusters in as many others as there may be, and in one more.
func TestPrintLevels(t *testing.T) {
	inner, lines := body(set("a", "b"), edge([]string{"a", "b"}), defaults("edge"), node("z")), ""
	for _, s := range []string{"set a = b;", "a -- b;", "edge [];", "z;"} {
		lines += "    " + s + "\n"
	}
	for levels := range api.MaxDepth + 2 {
		want := "graph g {\n" + lines + "}\n"
		if levels > api.MaxDepth {
			want = ""
		}
		if got := printer.Print(graph(inner...)); got != want {
			t.Errorf("with %d levels:\n%s; want\n%s", levels, got, want)
		}
		inner = body(node("x"), cluster("c", inner...), cluster("d"))
		shifted := ""
		for line := range strings.Lines(lines) {
			shifted += "    " + line
		}
		lines = "    x;\n    cluster c {\n" + shifted + "    }\n    cluster d {\n    }\n"
	}
}

// P8.1: trees that are not valid, wherever the error is.
func TestPrintInvalid(t *testing.T) {
	valid, _ := sample()
	if printer.Print(api.Tree{}) != "" || printer.Print(api.Tree{Name: "graph"}) != "" || printer.Print(api.Tree{Name: "a b", Directed: true, Body: valid.Body}) != "" {
		t.Error("trees without a name")
	}
	for _, s := range []api.Stmt{
		{},
		{Kind: -1, Name: "a"},
		{Kind: api.SCluster + 1, Name: "a"},
		{Kind: 1 << 40, Name: "a"},
		{Kind: api.SNode},
		{Kind: api.SNode, Name: "a", Refs: make([]api.Ref, 1)},
		{Kind: api.SNode, Name: "a", Body: body(node("b"))},
		node("edge"),
		node("a:p"),
		node("a", attr("", "x")),
		node("a", attr("label", "\n")),
		node("a", attr("label", "x\x7f")),
		node("a", attr("label", strings.Repeat("x", label+1))),
		node("a", attr("b", "1"), attr("b", "1")),
		node("a", fullList(most+1, "")...),
		edge(nil),
		edge([]string{"a"}),
		edge([]string{"a", ""}),
		edge([]string{"a", "b:set"}),
		{Kind: api.SEdge, Name: "a", Refs: edge([]string{"a", "b"}).Refs},
		defaults("graph"),
		defaults(""),
		{Kind: api.SSet, Name: "mode"},
		{Kind: api.SSet, Name: "mode", Attrs: make([]api.Attr, 2)},
		{Kind: api.SSet, Name: "mode", Attrs: []api.Attr{attr("a", "b")}},
		set("", "tidy"),
		cluster("1"),
		{Kind: api.SCluster, Name: "c", Attrs: make([]api.Attr, 1)},
	} {
		for _, x := range []api.Tree{graph(s), digraph(s, node("a")), digraph(append(slices.Clone(valid.Body), s)...), graph(cluster("c", node("a"), cluster("d", s)), node("b"))} {
			if got := printer.Print(x); got != "" {
				t.Errorf("Print(%v) = %q", x, got)
			}
		}
	}
}

// P8.1: as many statements as there may be, and one more.
func TestPrintStatements(t *testing.T) {
	list := slices.Repeat(body(node("a")), statements)
	if got, want := printer.Print(graph(list...)), "graph g {\n"+strings.Repeat("    a;\n", statements)+"}\n"; got != want {
		t.Errorf("%d statements: %d bytes; want %d", statements, len(got), len(want))
	}
	for _, x := range []api.Tree{graph(append(list, node("a"))...), graph(cluster("c", list...))} {
		if got := printer.Print(x); got != "" {
			t.Errorf("%d statements: %d bytes", tree.Count(x), len(got))
		}
	}
}

// P8.1, P8.2: values as they are and as strings, by the chapters 1, 6 and 8.
func TestValues(t *testing.T) {
	for val, want := range map[string]string{
		"tidy":                        `tidy`,
		"_":                           `_`,
		"Node":                        `Node`,
		"nodes":                       `nodes`,
		"abcdefghijklmnop":            `abcdefghijklmnop`,
		"abcdefghijklmnopq":           `"abcdefghijklmnopq"`,
		"digraph":                     `"digraph"`,
		"graph":                       `"graph"`,
		"node":                        `"node"`,
		"edge":                        `"edge"`,
		"set":                         `"set"`,
		"cluster":                     `"cluster"`,
		"":                            `""`,
		" ":                           `" "`,
		"a b":                         `"a b"`,
		" a":                          `" a"`,
		"a ":                          `"a "`,
		"1":                           `1`,
		" 1":                          `" 1"`,
		"1 ":                          `"1 "`,
		"0":                           `0`,
		"-0":                          `"-0"`,
		"-0.5":                        `-0.5`,
		"-":                           `"-"`,
		"--1":                         `"--1"`,
		"+1":                          `"+1"`,
		"0.50":                        `"0.50"`,
		"0.001":                       `0.001`,
		"0.0001":                      `"0.0001"`,
		"1.":                          `"1."`,
		".5":                          `".5"`,
		"01":                          `"01"`,
		"1a":                          `"1a"`,
		"1e3":                         `"1e3"`,
		"1,5":                         `"1,5"`,
		"268435.456":                  `268435.456`,
		"-268435.456":                 `-268435.456`,
		"268435.457":                  `"268435.457"`,
		"-268435.457":                 `"-268435.457"`,
		"268436":                      `"268436"`,
		"9223372036854775808":         `"9223372036854775808"`,
		"18446744073709551617":        `"18446744073709551617"`,
		"->":                          `"->"`,
		"a:p":                         `"a:p"`,
		"x];":                         `"x];"`,
		"# a":                         `"# a"`,
		"'":                           `"'"`,
		`"`:                           `"\""`,
		`\`:                           `"\\"`,
		`\"`:                          `"\\\""`,
		`a"b\`:                        `"a\"b\\"`,
		`"a"`:                         `"\"a\""`,
		`\n`:                          `"\\n"`,
		"~":                           `"~"`,
		strings.Repeat("x", label):    `"` + strings.Repeat("x", label) + `"`,
		strings.Repeat(`"`, label):    `"` + strings.Repeat(`\"`, label) + `"`,
		strings.Repeat(`\`, label):    `"` + strings.Repeat(`\\`, label) + `"`,
		strings.Repeat("9", label):    `"` + strings.Repeat("9", label) + `"`,
		"0." + strings.Repeat("0", 8): `"0.00000000"`,
	} {
		if got := written(val); got != want {
			t.Errorf("the reference writes %q as %s; want %s", val, got, want)
		}
		if got := printer.Attrs([]api.Attr{attr("k", val)}); got != "[k="+want+"]" {
			t.Errorf("the value %q: %s; want %s", val, got, want)
		}
		x := graph(node("a", attr("k", val)), edge([]string{"a", "b"}, attr("k", val), attr("l", val)), defaults("node", attr("k", val)), cluster("c", set("k", val)))
		text := "graph g {\n    a [k=" + want + "];\n    a -- b [k=" + want + ", l=" + want + "];\n    node [k=" + want + "];\n    cluster c {\n        set k = " + want + ";\n    }\n}\n"
		if got := printer.Print(x); got != text {
			t.Errorf("the value %q:\n%s; want\n%s", val, got, text)
		}
	}
}

// P8.1, P8.2: all short values of bytes that matter, and every byte anywhere.
func TestShortValues(t *testing.T) {
	const bytes = `-.019a_"\ ;`
	values := []string{""}
	for at := 0; len(values[at]) < 4; at++ {
		for _, c := range bytes {
			values = append(values, values[at]+string(c))
		}
	}
	for i := range 256 {
		c := string([]byte{byte(i)})
		values = append(values, c, "a"+c, c+"a", "1"+c, c+"1", "-"+c, "1."+c, "a"+c+"b", c+c, "node"+c)
	}
	for _, val := range values {
		want := "[k=" + written(val) + "]"
		if strings.ContainsFunc(val, func(c rune) bool { return c < 32 || c > 126 }) {
			want = ""
		}
		if got := printer.Attrs([]api.Attr{attr("k", val)}); got != want {
			t.Errorf("the value %q: %q; want %q", val, got, want)
		}
		check(t, digraph(set("k", val)))
	}
}

// P8.2
func TestAttrs(t *testing.T) {
	full := []string{}
	for _, a := range fullList(most, "x y") {
		full = append(full, a.Key+`="x y"`)
	}
	for _, c := range []struct {
		list []api.Attr
		want string
	}{
		{nil, ""},
		{[]api.Attr{}, ""},
		{[]api.Attr{attr("a", "b")}, `[a=b]`},
		{[]api.Attr{attr("height", "10"), attr("label", "x y")}, `[height=10, label="x y"]`},
		{[]api.Attr{attr("c", "3"), attr("a", "1"), attr("b", "")}, `[c=3, a=1, b=""]`},
		{[]api.Attr{attr("a", "x"), attr("A", "x")}, `[a=x, A=x]`},
		{[]api.Attr{attr("abcdefghijklmnop", "1")}, `[abcdefghijklmnop=1]`},
		{fullList(most, "x y"), "[" + strings.Join(full, ", ") + "]"},
		{fullList(most+1, ""), ""},
		{[]api.Attr{attr("", "1")}, ""},
		{[]api.Attr{attr("node", "1")}, ""},
		{[]api.Attr{attr("1", "1")}, ""},
		{[]api.Attr{attr("a b", "1")}, ""},
		{[]api.Attr{attr("abcdefghijklmnopq", "1")}, ""},
		{[]api.Attr{attr("a", "1"), attr("b", "2"), attr("a", "3")}, ""},
		{[]api.Attr{attr("a", strings.Repeat("x", label+1))}, ""},
		{[]api.Attr{attr("a", "1"), attr("b", "\n")}, ""},
		{[]api.Attr{attr("a", "é")}, ""},
		{[]api.Attr{attr("a", "\x1f")}, ""},
		{[]api.Attr{attr("a", "\x7f"), attr("b", "1")}, ""},
		{[]api.Attr{attr("a", "\xff")}, ""},
	} {
		if got := printer.Attrs(c.list); got != c.want {
			t.Errorf("Attrs(%q) = %s; want %s", c.list, got, c.want)
		}
	}
}

// P8.2: the text of a list alone is its text in the node a of the tree g, or
// in another statement.
func TestAttrsInTrees(t *testing.T) {
	m := maker{rand.New(rand.NewPCG(8, 2))}
	valid := 0
	for range 5000 {
		x := graph(node("a", m.list()...))
		if m.IntN(2) == 0 {
			m.spoil(&x)
			x.Body[0] = node("a", x.Body[0].Attrs...)
		}
		l := x.Body[0].Attrs
		got := printer.Attrs(l)
		if len(l) == 0 || tree.Valid(x) != api.OK {
			if got != "" {
				t.Fatalf("Attrs(%q) = %s", l, got)
			}
			continue
		}
		valid++
		if text := printer.Print(graph(node("a", l...), edge([]string{"a", "b"}, l...), defaults("edge", l...))); text != "graph g {\n    a "+got+";\n    a -- b "+got+";\n    edge "+got+";\n}\n" {
			t.Fatalf("Attrs(%q) = %s; in a tree\n%s", l, got, text)
		}
	}
	if valid < 1000 {
		t.Errorf("only %d lists are valid", valid)
	}
}

// P8.1, P8.3, P8.4: random trees are restored from their texts, and one change
// of a tree changes its text or leads to none.
func TestRandomTrees(t *testing.T) {
	m := maker{rand.New(rand.NewPCG(8, 1))}
	texts := map[string]api.Tree{}
	changed, invalid := 0, 0
	for range 10000 {
		x := m.tree()
		check(t, x)
		y := separate(x)
		m.spoil(&y)
		check(t, y)
		a, b := printer.Print(x), printer.Print(y)
		switch {
		case b == "":
			invalid++
		case (a == b) != tree.Equal(x, y):
			t.Fatalf("the trees %v and %v have the texts %q and %q", x, y, a, b)
		case a != b:
			changed++
		}
		if z, ok := texts[a]; ok && a != "" && !tree.Equal(x, z) {
			t.Fatalf("the trees %v and %v have the text %q", x, z, a)
		}
		texts[a] = x
	}
	if changed < 1000 || invalid < 1000 {
		t.Errorf("of the changed trees %d are valid and %d are not", changed, invalid)
	}
}

// P8.3: texts with as many bytes as a source may have, and with more: they are
// printed all the same.
func TestTextsAtLimit(t *testing.T) {
	const line = len("    a;\n")
	for _, extra := range []int{0, 1, 1000} {
		refs := []string{"a", "a"}
		rest := api.MaxSource + extra - len("graph g {\n    a -- a;\n}\n")
		for ; rest >= len(" -- a")+line; rest -= len(" -- a") {
			refs = append(refs, "a")
		}
		x := graph(edge(refs), node(strings.Repeat("x", rest-line+1)))
		text := printer.Print(x)
		if len(text) != api.MaxSource+extra {
			t.Errorf("%d bytes; want %d", len(text), api.MaxSource+extra)
		}
		if _, _, err := lexer.Tokenize(text); err != []api.Errno{api.OK, api.ErrLimit}[min(extra, 1)] {
			t.Errorf("Tokenize of %d bytes: %d", len(text), err)
		}
		check(t, x)
	}
}

// P8.1, P8.3: the largest statements.
func TestLargeTrees(t *testing.T) {
	l := fullList(most, strings.Repeat(`"`, label))
	check(t, digraph(slices.Repeat(body(node("abcdefghijklmnop", l...)), statements)...))
	check(t, graph(slices.Repeat(body(cluster("c", defaults("node", l...))), statements/2)...))
	refs := slices.Repeat([]string{"abcdefghijklmnop:ponmlkjihgfedcba", "a"}, 1<<16)
	if got, want := printer.Print(digraph(edge(refs, attr("k", "v")))), "digraph g {\n    "+strings.Join(refs, " -> ")+" [k=v];\n}\n"; got != want {
		t.Errorf("a chain of %d refs: %d bytes; want %d", len(refs), len(got), len(want))
	}
}

// P8.4: trees that are alike, each with a text of its own.
func TestOneForm(t *testing.T) {
	l := attr("a", "b")
	list := []api.Tree{
		graph(),
		digraph(),
		{Name: "h"},
		{Name: "digraphs"},
		graph(node("a")),
		digraph(node("a")),
		graph(node("A")),
		graph(node("a", l)),
		graph(node("a", attr("a", ""))),
		graph(node("a", attr("a", "b "))),
		graph(node("a", attr("a", `"b"`))),
		graph(node("a", attr("a", `\"b\"`))),
		graph(node("a", attr("a", "b"), attr("b", "a"))),
		graph(node("a", attr("b", "a"), attr("a", "b"))),
		graph(node("a", attr("a", "b, b=a"))),
		graph(node("a", attr("a", "1"))),
		graph(node("a", attr("a", "1.0"))),
		graph(node("a", attr("a", "-0"))),
		graph(node("a", attr("a", "0"))),
		graph(node("a"), node("a")),
		graph(node("a"), node("b")),
		graph(node("b"), node("a")),
		graph(edge([]string{"a", "b"})),
		digraph(edge([]string{"a", "b"})),
		graph(edge([]string{"b", "a"})),
		graph(edge([]string{"a", "b"}, l)),
		graph(edge([]string{"a", "b", "c"})),
		graph(edge([]string{"a", "b"}), edge([]string{"b", "c"})),
		graph(edge([]string{"a:b", "c"})),
		graph(edge([]string{"a", "b:c"})),
		graph(edge([]string{"a", "c:b"})),
		graph(defaults("node")),
		graph(defaults("edge")),
		graph(defaults("node", l)),
		graph(set("a", "b")),
		graph(set("a", "c")),
		graph(set("a", "a = b")),
		graph(set("b", "b")),
		graph(cluster("a")),
		graph(cluster("a"), node("b")),
		graph(cluster("a", node("b"))),
		graph(cluster("a"), cluster("b")),
		graph(cluster("a", cluster("b"))),
		graph(cluster("a", cluster("b", node("c")))),
		graph(cluster("a", cluster("b"), node("c"))),
		graph(cluster("a", cluster("b")), node("c")),
	}
	texts := map[string]int{"": -1}
	for i, x := range list {
		text := printer.Print(x)
		if j, ok := texts[text]; ok {
			t.Errorf("%d and %d have the text %q", j, i, text)
		}
		texts[text] = i
	}
}

// 0.4, 0.8, 0.9: empty slices, what lies behind the end of a slice, and that
// the arguments stay as they are.
func TestArguments(t *testing.T) {
	spare := body(node("a", attr("a", "b")), node("hidden"))
	x := digraph(
		api.Stmt{Kind: api.SNode, Name: "a", Refs: make([]api.Ref, 0, 2), Attrs: spare[0].Attrs[:0], Body: spare[:0]},
		api.Stmt{Kind: api.SCluster, Name: "c", Refs: make([]api.Ref, 0, 2), Attrs: fullList(2, "")[:0], Body: spare[:1]},
		api.Stmt{Kind: api.SDefault, Name: "node", Attrs: fullList(2, "")[:0]},
		node("hidden"),
	)
	x.Body = x.Body[:3]
	want := "digraph g {\n    a;\n    cluster c {\n        a [a=b];\n    }\n    node [];\n}\n"
	before := separate(x)
	for range 2 {
		if got := printer.Print(x); got != want {
			t.Errorf("Print =\n%s; want\n%s", got, want)
		}
		if got := printer.Attrs(spare[0].Attrs); got != "[a=b]" {
			t.Errorf("Attrs = %s", got)
		}
	}
	if !tree.Equal(x, before) || x.Body[:4][3].Name != "hidden" || spare[1].Name != "hidden" || spare[0].Attrs[0] != attr("a", "b") {
		t.Errorf("the argument became %v", x)
	}
}

// 0.1: trees with as many levels as inputs may have, and with more statements
// than can be counted.
func TestDeepAndEndlessTrees(t *testing.T) {
	deep, folded := body(node("a")), body(node("a"))
	for range 1 << 16 {
		deep = body(cluster("c", deep...))
	}
	for range 62 {
		folded = body(cluster("c", folded...), cluster("d", folded...))
	}
	own := body(node("a"), cluster("c"))
	own[1].Body = own
	for i, list := range [][]api.Stmt{deep, folded, own} {
		if got := printer.Print(graph(list...)); got != "" {
			t.Errorf("%d: %d bytes", i, len(got))
		}
	}
}
