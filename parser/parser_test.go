package parser_test

import (
	"math/rand/v2"
	"regexp"
	"slices"
	"strings"
	"testing"

	"layout/api"
	"layout/fixed"
	"layout/lexer"
	"layout/parser"
	"layout/printer"
	"layout/tree"
)

const (
	statements = 512
	depth      = api.MaxDepth
	label      = api.MaxLabel
	most       = api.MaxAttrs
)

func attr(key, val string) api.Attr {
	return api.Attr{Key: key, Val: val}
}

// body returns the body of a tree or of a cluster.
func body(list ...api.Stmt) []api.Stmt {
	return list
}

func node(name string, l ...api.Attr) api.Stmt {
	return api.Stmt{Kind: api.SNode, Name: name, Attrs: l}
}

// edge returns a chain of refs, each with what it says before and behind a colon.
func edge(refs []string, l ...api.Attr) api.Stmt {
	s := api.Stmt{Kind: api.SEdge, Attrs: l}
	for _, r := range refs {
		node, port, _ := strings.Cut(r, ":")
		s.Refs = append(s.Refs, api.Ref{Node: node, Port: port})
	}
	return s
}

func defaults(name string, l ...api.Attr) api.Stmt {
	return api.Stmt{Kind: api.SDefault, Name: name, Attrs: l}
}

func set(name, val string) api.Stmt {
	return api.Stmt{Kind: api.SSet, Name: name, Attrs: []api.Attr{attr("", val)}}
}

func cluster(name string, list ...api.Stmt) api.Stmt {
	return api.Stmt{Kind: api.SCluster, Name: name, Body: list}
}

func graph(list ...api.Stmt) api.Tree {
	return api.Tree{Name: "g", Body: list}
}

func digraph(list ...api.Stmt) api.Tree {
	return api.Tree{Name: "g", Directed: true, Body: list}
}

// fullList returns n attributes with the value val.
func fullList(n int, val string) []api.Attr {
	l := []api.Attr{}
	for i := range n {
		l = append(l, attr("k"+string(rune('a'+i)), val))
	}
	return l
}

// outcome is what Parse returns; what ParseAttrs returns is the attributes of
// the only node.
type outcome struct {
	tree api.Tree
	line int
	err  api.Errno
}

func (o outcome) equals(p outcome) bool {
	return tree.Equal(o.tree, p.tree) && o.line == p.line && o.err == p.err
}

func parse(src string) outcome {
	t, line, err := parser.Parse(src)
	return outcome{t, line, err}
}

func parseAttrs(src string) outcome {
	l, line, err := parser.ParseAttrs(src)
	if err != api.OK && len(l) == 0 {
		return failed(line, err)
	}
	return outcome{owner(l), line, err}
}

// owner returns the tree with a node that has the attributes l.
func owner(l []api.Attr) api.Tree {
	return graph(node("a", l...))
}

func denoted(t api.Tree) outcome {
	return outcome{tree: t}
}

func failed(line int, err api.Errno) outcome {
	return outcome{line: line, err: err}
}

// part is what a source has between blanks: as the grammar calls it (NAME,
// NUMBER, STRING, or the keyword or mark itself), and as it is written.
type part struct{ symbol, text string }

// The forms of parts and of values.
var (
	partForm    = regexp.MustCompile(`"(?:[^"\\]|\\.)*"|-?[0-9][0-9.]*|[a-zA-Z_][a-zA-Z0-9_]*|->|--|.`)
	wordForm    = regexp.MustCompile(`^[a-zA-Z_][a-zA-Z0-9_]{0,15}$`)
	keywordForm = regexp.MustCompile(`^(?:digraph|graph|node|edge|set|cluster)$`)
	numberForm  = regexp.MustCompile(`^-?[0-9]`)
)

// parts divides a text without errors, comments and blanks other than spaces.
func parts(text string) []part {
	list := []part{}
	for _, s := range partForm.FindAllString(text, -1) {
		switch {
		case s == " ":
			continue
		case s[0] == '"':
			list = append(list, part{"STRING", s})
		case numberForm.MatchString(s):
			list = append(list, part{"NUMBER", s})
		case wordForm.MatchString(s) && !keywordForm.MatchString(s):
			list = append(list, part{"NAME", s})
		default:
			list = append(list, part{s, s})
		}
	}
	return list
}

// spelled returns the text of the parts, each on a line of its own, and the
// last one without a line feed behind it.
func spelled(list []part) string {
	lines := []string{}
	for _, p := range list {
		lines = append(lines, p.text)
	}
	return strings.Join(lines, "\n")
}

// rules returns the chapter's grammar: for each of its names, the alternatives.
// What may repeat has a name of its own, and so has what depends on the arrow.
func rules() map[string][][]string {
	line := func(s string) []string { return strings.Fields(s) }
	return map[string][][]string{
		"<tree>":        {line("digraph NAME { <body>-> }"), line("graph NAME { <body>-- }")},
		"<body>->":      {{}, line("<statement>-> <body>->")},
		"<body>--":      {{}, line("<statement>-- <body>--")},
		"<statement>->": {line("NAME <attrs?> ;"), line("<ref> -> <ref> <more>-> <attrs?> ;"), line("<common>"), line("cluster NAME { <body>-> }")},
		"<statement>--": {line("NAME <attrs?> ;"), line("<ref> -- <ref> <more>-- <attrs?> ;"), line("<common>"), line("cluster NAME { <body>-- }")},
		"<common>":      {line("node <attrs> ;"), line("edge <attrs> ;"), line("set NAME = <value> ;")},
		"<more>->":      {{}, line("-> <ref> <more>->")},
		"<more>--":      {{}, line("-- <ref> <more>--")},
		"<ref>":         {line("NAME"), line("NAME : NAME")},
		"<attrs?>":      {{}, line("<attrs>")},
		"<attrs>":       {line("[ ]"), line("[ <attr> <comma> ]")},
		"<comma>":       {{}, line(", <attr> <comma>")},
		"<attr>":        {line("NAME = <value>")},
		"<value>":       {line("NAME"), line("NUMBER"), line("STRING")},
	}
}

// after returns the ways in which a source can go on behind the next symbol. A
// way is the list of what is still to come.
func after(grammar map[string][][]string, ways [][]string, symbol string) [][]string {
	left := [][]string{}
	for len(ways) > 0 {
		way := ways[0]
		ways = ways[1:]
		if len(way) == 0 {
			continue
		}
		if alternatives, ok := grammar[way[0]]; ok {
			for _, a := range alternatives {
				ways = append(ways, slices.Concat(a, way[1:]))
			}
		} else if way[0] == symbol {
			left = append(left, way[1:])
		}
	}
	return left
}

// mayEnd reports whether one of the ways has nothing to come.
func mayEnd(ways [][]string) bool {
	return slices.ContainsFunc(ways, func(way []string) bool { return len(way) == 0 })
}

// wantedError returns the error that the chapter's grammar and limit of
// clusters lead to, with the index of the part, or false if there is none.
func wantedError(start string, list []part) (at int, err api.Errno, ok bool) {
	grammar, ways := rules(), [][]string{{start}}
	open := 0
	for i, p := range list {
		ways = after(grammar, ways, p.symbol)
		if len(ways) == 0 {
			return i, api.ErrSyntax, true
		}
		switch p.symbol {
		case "{":
			// The braces before this one are those of the tree and of the
			// clusters in which it lies.
			if open > depth {
				return i, api.ErrLimit, true
			}
			open++
		case "}":
			open--
		}
	}
	if !mayEnd(ways) {
		return max(len(list)-1, 0), api.ErrSyntax, true
	}
	return 0, api.OK, false
}

// wantedFault returns the error of tree.Valid for what parts denote that follow
// the grammar: too many statements, or the first list of attributes that is too
// long or has a key twice.
func wantedFault(list []part) api.Errno {
	count := 0
	for _, p := range list {
		if p.symbol == ";" || p.symbol == "cluster" {
			count++
		}
	}
	if count > statements {
		return api.ErrLimit
	}
	for i, p := range list {
		if p.symbol != "[" {
			continue
		}
		keys := []string{}
		for j := i; list[j].symbol != "]"; j++ {
			if list[j].symbol == "=" {
				keys = append(keys, list[j-1].text)
			}
		}
		slices.Sort(keys)
		switch {
		case len(keys) > most:
			return api.ErrLimit
		case len(slices.Compact(slices.Clone(keys))) < len(keys):
			return api.ErrDup
		}
	}
	return api.OK
}

// value returns the value that a part denotes.
func value(p part) string {
	switch p.symbol {
	case "STRING":
		return strings.NewReplacer(`\\`, `\`, `\"`, `"`).Replace(p.text[1 : len(p.text)-1])
	case "NUMBER":
		n, _ := fixed.Parse(p.text)
		return fixed.Format(n)
	}
	return p.text
}

// plain returns the texts of parts that follow the grammar, with values instead
// of how they are written, and without empty brackets that may be left out.
func plain(list []part) []string {
	texts := []string{}
	for i := 0; i < len(list); i++ {
		if i > 0 && list[i].symbol == "[" && list[i+1].symbol == "]" && list[i-1].symbol == "NAME" {
			i++
			continue
		}
		text := list[i].text
		if i > 0 && list[i-1].symbol == "=" {
			text = "value " + value(list[i])
		}
		texts = append(texts, text)
	}
	return texts
}

// plainTree returns what plain returns for the parts of a source of t.
func plainTree(t api.Tree) []string {
	texts := []string{"graph", t.Name, "{"}
	arrow := "--"
	if t.Directed {
		texts[0], arrow = "digraph", "->"
	}
	return append(plainBody(texts, arrow, t.Body), "}")
}

// plainBody appends to texts those of the statements.
func plainBody(texts []string, arrow string, list []api.Stmt) []string {
	for _, s := range list {
		switch s.Kind {
		case api.SNode:
			texts = append(texts, s.Name)
		case api.SEdge:
			for i, r := range s.Refs {
				if i > 0 {
					texts = append(texts, arrow)
				}
				texts = append(texts, r.Node)
				if r.Port != "" {
					texts = append(texts, ":", r.Port)
				}
			}
		case api.SDefault:
			texts = append(texts, s.Name)
		case api.SSet:
			texts = append(texts, "set", s.Name, "=", "value "+s.Attrs[0].Val, ";")
			continue
		case api.SCluster:
			texts = append(texts, "cluster", s.Name, "{")
			texts = append(plainBody(texts, arrow, s.Body), "}")
			continue
		}
		texts = append(plainList(texts, s.Attrs, s.Kind == api.SDefault), ";")
	}
	return texts
}

// plainList appends to texts those of attributes; if there are none, brackets
// only where they are needed.
func plainList(texts []string, l []api.Attr, needed bool) []string {
	if len(l) == 0 && !needed {
		return texts
	}
	texts = append(texts, "[")
	for i, a := range l {
		if i > 0 {
			texts = append(texts, ",")
		}
		texts = append(texts, a.Key, "=", "value "+a.Val)
	}
	return append(texts, "]")
}

// check compares what Parse (or ParseAttrs, if that is asked for) returns for
// the parts, each on a line of its own, with what the chapter says.
func check(t *testing.T, attrsOnly bool, list []part) api.Errno {
	t.Helper()
	src, start, got := spelled(list), "<tree>", outcome{}
	if attrsOnly {
		start, got = "<attrs>", parseAttrs(src)
	} else {
		got = parse(src)
	}
	want := outcome{tree: got.tree}
	if at, err, ok := wantedError(start, list); ok {
		want = failed(at+1, err)
	} else if err := wantedFault(list); err != api.OK {
		want = failed(0, err)
	}
	if !got.equals(want) {
		t.Fatalf("%q: %v; want %v", src, got, want)
	}
	if want.err != api.OK {
		return want.err
	}
	texts := plainTree(got.tree)
	if attrsOnly {
		texts = plainList(nil, got.tree.Body[0].Attrs, true)
	}
	if !slices.Equal(texts, plain(list)) {
		t.Fatalf("%q: %v, which denotes %q", src, got.tree, texts)
	}
	return want.err
}

// sample returns a source with all that the grammar has.
func sample() string {
	return `digraph g { a; b []; c [x=1]; d [x=e, y=-2.5, z="q"]; ` +
		`a -> b; a:p -> b:q -> c [weight=2]; a -> b:p -> c:r -> a []; ` +
		`node []; edge [len=1, label="a b"]; node [width=2]; set mode = tidy; set sep = 1.5; set title = "node"; ` +
		`cluster k { } cluster l { x; cluster m { x -> y; set o = p; cluster n { } edge []; } y -> x; } z; }`
}

// symbols returns a part for each symbol of the grammar, with two names, and
// strings with the texts of a keyword and of a mark.
func symbols() []part {
	return parts(`digraph graph node edge set cluster { } [ ] ; , = : -> -- a x 1 "a" "node" ";"`)
}

// P9.1: what each form of a statement denotes.
func TestParse(t *testing.T) {
	l := []api.Attr{attr("width", "2.5"), attr("label", "x y")}
	for src, want := range map[string]api.Tree{
		"graph g { }":               graph(),
		"digraph g{}":               digraph(),
		"graph abcdefghijklmnop {}": {Name: "abcdefghijklmnop"},
		"digraph Graph {}":          {Name: "Graph", Directed: true},
		"digraph g { a:p -> b -> c [weight=2]; }": digraph(edge([]string{"a:p", "b", "c"}, attr("weight", "2"))),
		"graph g { a; }":                                       graph(node("a")),
		"graph g { a []; }":                                    graph(node("a")),
		"digraph g { a; a; g; }":                               digraph(node("a"), node("a"), node("g")),
		`graph g { a [width=2.5, label="x y"]; }`:              graph(node("a", l...)),
		`graph g{a[width=2.5,label="x y"];}`:                   graph(node("a", l...)),
		"graph g { a -- b; }":                                  graph(edge([]string{"a", "b"})),
		"graph g{a--b;}":                                       graph(edge([]string{"a", "b"})),
		"digraph g{a->b;}":                                     digraph(edge([]string{"a", "b"})),
		"digraph g { a -> a []; }":                             digraph(edge([]string{"a", "a"})),
		"graph g{a:b--a:a--a--c:d;}":                           graph(edge([]string{"a:b", "a:a", "a", "c:d"})),
		`graph g { a -- b [width=2.5, label="x y"]; }`:         graph(edge([]string{"a", "b"}, l...)),
		"graph g { node []; edge []; }":                        graph(defaults("node"), defaults("edge")),
		`graph g { node [width=2.5, label="x y"]; }`:           graph(defaults("node", l...)),
		`digraph g { edge [width=2.5, label="x y"]; }`:         digraph(defaults("edge", l...)),
		"graph g { set mode = tidy; }":                         graph(set("mode", "tidy")),
		"graph g { set sep=-0.5; set sep=2; }":                 graph(set("sep", "-0.5"), set("sep", "2")),
		`graph g { set title = "a \"b\" \\"; }`:                graph(set("title", `a "b" \`)),
		`graph g { set title = ""; }`:                          graph(set("title", "")),
		"graph g { cluster c { } }":                            graph(cluster("c")),
		"graph g { cluster c { a; } cluster c { } b; }":        graph(cluster("c", node("a")), cluster("c"), node("b")),
		"digraph g { cluster c { cluster d { a -> b; } c; } }": digraph(cluster("c", cluster("d", edge([]string{"a", "b"})), node("c"))),
		"graph g { cluster c { node [a=b]; set a = b; } }":     graph(cluster("c", defaults("node", attr("a", "b")), set("a", "b"))),
		"graph g { nodes; Node; edge1; _set; clusters; }":      graph(node("nodes"), node("Node"), node("edge1"), node("_set"), node("clusters")),
	} {
		if got := parse(src); !got.equals(denoted(want)) {
			t.Errorf("%q: %v; want %v", src, got, want)
		}
	}
}

// P9.1: values, written in all ways.
func TestValues(t *testing.T) {
	for text, want := range map[string]string{
		"tidy":                                  "tidy",
		"_":                                     "_",
		"abcdefghijklmnop":                      "abcdefghijklmnop",
		`"tidy"`:                                "tidy",
		`"node"`:                                "node",
		`"abcdefghijklmnopq"`:                   "abcdefghijklmnopq",
		`""`:                                    "",
		`" "`:                                   " ",
		`"a b"`:                                 "a b",
		`"\""`:                                  `"`,
		`"\\"`:                                  `\`,
		`"\\\""`:                                `\"`,
		`"\\n"`:                                 `\n`,
		`"];"`:                                  "];",
		`"# a"`:                                 "# a",
		"0":                                     "0",
		"7":                                     "7",
		"-1":                                    "-1",
		"2.5":                                   "2.5",
		"-0.005":                                "-0.005",
		"268435.456":                            "268435.456",
		"-268435.456":                           "-268435.456",
		`"2.5"`:                                 "2.5",
		`"2.50"`:                                "2.50",
		`"-0"`:                                  "-0",
		`"268435.457"`:                          "268435.457",
		`"` + strings.Repeat("x", label) + `"`:  strings.Repeat("x", label),
		`"` + strings.Repeat(`\"`, label) + `"`: strings.Repeat(`"`, label),
	} {
		src := "digraph g { a [k=" + text + "]; a->b [k=" + text + ", l=" + text + "]; node [k=" + text + "]; cluster c { set k = " + text + "; } }"
		k, l := attr("k", want), attr("l", want)
		if got := parse(src); !got.equals(denoted(digraph(node("a", k), edge([]string{"a", "b"}, k, l), defaults("node", k), cluster("c", set("k", want))))) {
			t.Errorf("%q: %v", src, got)
		}
		if got := parseAttrs("[k=" + text + "]"); !got.equals(denoted(owner([]api.Attr{k}))) {
			t.Errorf("[k=%s]: %v", text, got)
		}
	}
}

// P9.1: syntax errors with their lines.
func TestSyntaxErrors(t *testing.T) {
	for src, line := range map[string]int{
		"":                                   1,
		" \n\n# nothing\n":                   1,
		"graph":                              1,
		"graph\n\n":                          1,
		"\n\ngraph":                          3,
		"\ngraph g\n{\n\n":                   3,
		"digraph g {\n a; # end":             2,
		"digraph g {\n a\n\n\n":              2,
		"graph g {\n cluster c {\n}\n":       3,
		"a":                                  1,
		"\n{":                                2,
		"cluster g {}":                       1,
		`"graph" g {}`:                       1,
		"graph\n{}":                          2,
		"graph\n1 {}":                        2,
		"graph\n\"g\" {}":                    2,
		"digraph\nnode {}":                   2,
		"digraph\ndigraph {}":                2,
		"graph g\n;":                         2,
		"graph g\n[":                         2,
		"graph g {}\n\n}":                    3,
		"graph g {}\ngraph g {}":             2,
		"graph g {}\n;":                      2,
		"graph g {\n;}":                      2,
		"graph g {\n{ }\n}":                  2,
		"graph g {\n1;}":                     2,
		"graph g {\n\"a\";}":                 2,
		"graph g {\ngraph;}":                 2,
		"graph g { a\n}":                     2,
		"graph g { a\nb; }":                  2,
		"graph g { a\n-> b; }":               2,
		"digraph g { a\n-- b; }":             2,
		"digraph g { a -> b\n-- c; }":        2,
		"graph g { a -- b\n-> c; }":          2,
		"graph g { cluster c { a\n-> b; } }": 2,
		"digraph g { a ->\n; }":              2,
		"digraph g { a ->\n-> b; }":          2,
		"digraph g { a -> b ->\n; }":         2,
		"digraph g { a -> b\n}":              2,
		"digraph g { ->\na -> b; }":          1,
		"digraph g { a ->\nnode; }":          2,
		"digraph g { a ->\n1; }":             2,
		"digraph g { a ->\n\"b\"; }":         2,
		"graph g { a:p\n; }":                 2,
		"graph g { a:p\n[]; }":               2,
		"graph g { a:\n; }":                  2,
		"graph g { a:\n\"p\" -- b; }":        2,
		"graph g { a:\n1 -- b; }":            2,
		"graph g { a:p\n:q -- b; }":          2,
		"graph g { a -- b:\n; }":             2,
		"graph g { node\n; }":                2,
		"graph g { edge\n; }":                2,
		"graph g { node\n-- a; }":            2,
		"graph g { node\n:p; }":              2,
		"graph g { node\na; }":               2,
		"graph g { node []\n}":               2,
		"graph g { node []\n[]; }":           2,
		"graph g { a []\n[]; }":              2,
		"graph g { a []\n-- b; }":            2,
		"graph g { a [\n;] }":                2,
		"graph g { a [x\n]; }":               2,
		"graph g { a [x\n,y=1]; }":           2,
		"graph g { a [x\nx=1]; }":            2,
		"graph g { a [x=\n]; }":              2,
		"graph g { a [x=\n=1]; }":            2,
		"graph g { a [x=\nnode]; }":          2,
		"graph g { a [\nnode=x]; }":          2,
		"graph g { a [\n1=x]; }":             2,
		"graph g { a [\n\"x\"=1]; }":         2,
		"graph g { a [\n,]; }":               2,
		"graph g { a [x=1,\n]; }":            2,
		"graph g { a [x=1,\n,y=2]; }":        2,
		"graph g { a [x=1\ny=2]; }":          2,
		"graph g { a [x=1\n; }":              2,
		"graph g { a [x=1\n-- b]; }":         2,
		"graph g { a [x=a\n:p]; }":           2,
		"graph g { set\n= 1; }":              2,
		"graph g { set\nset = 1; }":          2,
		"graph g { set\n1 = 1; }":            2,
		"graph g { set x\n1; }":              2,
		"graph g { set x =\n; }":             2,
		"graph g { set x =\nedge; }":         2,
		"graph g { set x =\n[]; }":           2,
		"graph g { set x = 1\n}":             2,
		"graph g { set x = 1\n2; }":          2,
		"graph g { set x = 1\n[]; }":         2,
		"graph g { cluster\n{ } }":           2,
		"graph g { cluster\n1 { } }":         2,
		"graph g { cluster\nset { } }":       2,
		"graph g { cluster c\n; }":           2,
		"graph g { cluster c\n[] { } }":      2,
		"graph g { cluster c { }\n; }":       2,
	} {
		if got := parse(src); !got.equals(failed(line, api.ErrSyntax)) {
			t.Errorf("%q: %v; want line %d", src, got, line)
		}
	}
}

// P9.1: the errors of lexer.Tokenize come first, wherever they are; their lines
// are those of the tokens.
func TestTokenErrors(t *testing.T) {
	for text, err := range map[string]api.Errno{
		"@":                                      api.ErrSyntax,
		"-":                                      api.ErrSyntax,
		"2.50":                                   api.ErrSyntax,
		"-0":                                     api.ErrSyntax,
		"1a":                                     api.ErrSyntax,
		"268435.457":                             api.ErrOverflow,
		"abcdefghijklmnopq":                      api.ErrLimit,
		`"a`:                                     api.ErrRange,
		`"a\n"`:                                  api.ErrSyntax,
		`"` + strings.Repeat("x", label+1) + `"`: api.ErrLimit,
		"é":                                      api.ErrSyntax,
		"\xff":                                   api.ErrSyntax,
	} {
		deep := "graph g {" + strings.Repeat("cluster c {", depth+1)
		for _, before := range []string{"", "}\n", "graph g { a [x=1, x=2];\n", "digraph g {\n a [x=", deep, "graph g {\n a;\n}\n", "\n\n; # @\n"} {
			want := failed(1+strings.Count(before, "\n"), err)
			for _, src := range []string{before + text, before + text + "\n}", before + text + "\n@"} {
				if got := parse(src); !got.equals(want) {
					t.Errorf("Parse(%q) = %v; want %v", src, got, want)
				}
				if got := parseAttrs(src); !got.equals(want) {
					t.Errorf("ParseAttrs(%q) = %v; want %v", src, got, want)
				}
			}
		}
		for _, src := range []string{"[x=\n" + text + "]", "[]\n" + text, "[x=1, x=\n" + text} {
			if got := parseAttrs(src); !got.equals(failed(2, err)) {
				t.Errorf("ParseAttrs(%q) = %v", src, got)
			}
		}
	}
}

// P9.1, P9.2: sources with as many bytes as there may be, and with one more.
func TestSourceLimit(t *testing.T) {
	for _, fill := range []string{" ", "\n", "#"} {
		for _, rest := range []int{0, 1} {
			pad := func(s string) string { return s + strings.Repeat(fill, api.MaxSource+rest-len(s)) }
			tree, list := denoted(graph(node("a"))), denoted(owner([]api.Attr{attr("x", "1")}))
			if rest > 0 {
				tree, list = failed(0, api.ErrLimit), failed(0, api.ErrLimit)
			}
			if got := parse(pad("graph g { a; }")); !got.equals(tree) {
				t.Errorf("%d bytes more than a tree may have, %q: %v", rest, fill, got)
			}
			if got := parseAttrs(pad("[x=1]")); !got.equals(list) {
				t.Errorf("%d bytes more than attributes may have, %q: %v", rest, fill, got)
			}
		}
	}
	for _, s := range []string{"@", "}", "a", "\n", "graph g {} ", "[x=1, x=1] "} {
		src := strings.Repeat(s, api.MaxSource/len(s)+1)
		if got, list := parse(src), parseAttrs(src); !got.equals(failed(0, api.ErrLimit)) || !list.equals(failed(0, api.ErrLimit)) {
			t.Errorf("many times %q: %v, %v", s, got, list)
		}
	}
}

// P9.1: clusters in as many others as there may be, and in one more.
func TestClusterLimit(t *testing.T) {
	within := func(levels int, inner string) string {
		return "graph g {\n" + strings.Repeat("cluster c {\n", levels) + inner + strings.Repeat("}\n", levels) + "}"
	}
	tower := func(inner ...api.Stmt) outcome {
		for range depth {
			inner = body(cluster("c", inner...))
		}
		return denoted(graph(inner...))
	}
	const deepest = depth + 2 // the line behind the { of the innermost cluster
	for _, c := range []struct {
		src  string
		want outcome
	}{
		{within(depth, ""), tower()},
		{within(depth, "a;"), tower(node("a"))},
		{within(depth-1, strings.Repeat("cluster c { } ", 50)), func() outcome {
			inner := slices.Repeat(body(cluster("c")), 50)
			for range depth - 1 {
				inner = body(cluster("c", inner...))
			}
			return denoted(graph(inner...))
		}()},
		{"graph g { " + strings.Repeat("cluster c { cluster d { } } ", 50) + "}", denoted(graph(slices.Repeat(body(cluster("c", cluster("d"))), 50)...))},
		{within(depth+1, ""), failed(deepest, api.ErrLimit)},
		{within(100, ""), failed(deepest, api.ErrLimit)},
		{within(depth, "a;\ncluster\nh\n{ } "), failed(deepest+3, api.ErrLimit)},
		{within(depth, "cluster h {"), failed(deepest, api.ErrLimit)},
		{within(depth, "cluster h\n{ a"), failed(deepest+1, api.ErrLimit)},
		{within(depth, "cluster h\n{ ;"), failed(deepest+1, api.ErrLimit)},
		{within(depth, "cluster h\n;"), failed(deepest+1, api.ErrSyntax)},
		{within(depth, "cluster h\n[ {"), failed(deepest+1, api.ErrSyntax)},
		{within(depth, "cluster\n{ }"), failed(deepest+1, api.ErrSyntax)},
		{within(depth, ";\ncluster h { }"), failed(deepest, api.ErrSyntax)},
		{within(depth, "\n{ }"), failed(deepest+1, api.ErrSyntax)},
		{within(depth, "a [x=1, x=2];\ncluster h { }"), failed(deepest+1, api.ErrLimit)},
		{"graph g {\n" + strings.Repeat("cluster c {\n", depth) + "cluster h", failed(deepest, api.ErrSyntax)},
		{"graph g {\n" + strings.Repeat("cluster c {\n", depth) + "cluster h\n{", failed(deepest+1, api.ErrLimit)},
		{"graph g {" + strings.Repeat("cluster c{", (api.MaxSource-10)/10), failed(1, api.ErrLimit)},
		{"graph g {" + strings.Repeat("cluster c {", depth) + "}" + "cluster d {" + "\ncluster e {", failed(2, api.ErrLimit)},
	} {
		if got := parse(c.src); !got.equals(c.want) {
			t.Errorf("%q: %v; want %v", c.src, got, c.want)
		}
	}
}

// P9.1: the errors of tree.Valid, behind all others and without a line.
func TestTreeErrors(t *testing.T) {
	text := func(n int) string {
		list := []string{}
		for _, a := range fullList(n, "1") {
			list = append(list, a.Key+"="+a.Val)
		}
		return "[" + strings.Join(list, ",") + "]"
	}
	enough, tooMany := strings.Repeat("a;", statements), strings.Repeat("a;", statements+1)
	for src, want := range map[string]outcome{
		"graph g {\n a [x=1, x=2]; }":                                   failed(0, api.ErrDup),
		"graph g {\n a -- b [x=1, y=1, x=1]; }":                         failed(0, api.ErrDup),
		"graph g {\n edge [x=a, x=\"a\"]; }":                            failed(0, api.ErrDup),
		"graph g {\n cluster c { node [x=1, x=2]; }}":                   failed(0, api.ErrDup),
		"graph g { a [x=1, x=2];\n}\n}":                                 failed(3, api.ErrSyntax),
		"graph g { a [x=1, x=2];\n;}":                                   failed(2, api.ErrSyntax),
		"graph g { a [x=1, x=2];":                                       failed(1, api.ErrSyntax),
		"graph g { a [x=1, X=2]; }":                                     denoted(graph(node("a", attr("x", "1"), attr("X", "2")))),
		"graph g { a [x=1]; a [x=1]; }":                                 denoted(graph(node("a", attr("x", "1")), node("a", attr("x", "1")))),
		"graph g { a " + text(most) + "; }":                             denoted(graph(node("a", fullList(most, "1")...))),
		"graph g { a " + text(most+1) + "; }":                           failed(0, api.ErrLimit),
		"graph g { edge " + text(most+1) + "; }":                        failed(0, api.ErrLimit),
		"graph g { a -- b " + text(most+1) + "; }":                      failed(0, api.ErrLimit),
		"graph g { a [x=1,x=2]; b " + text(most+1) + "; }":              failed(0, api.ErrDup),
		"graph g { b " + text(most+1) + "; a [x=1,x=2]; }":              failed(0, api.ErrLimit),
		"graph g { a " + text(most+1) + "\n}":                           failed(2, api.ErrSyntax),
		"graph g {" + enough + "}":                                      denoted(graph(slices.Repeat(body(node("a")), statements)...)),
		"graph g {" + tooMany + "}":                                     failed(0, api.ErrLimit),
		"graph g {a[x=1,x=2];" + tooMany + "}":                          failed(0, api.ErrLimit),
		"graph g {" + tooMany + "\n":                                    failed(1, api.ErrSyntax),
		"graph g {" + tooMany + "\n;}":                                  failed(2, api.ErrSyntax),
		"graph g { cluster c {" + enough + "} }":                        failed(0, api.ErrLimit),
		"graph g { cluster c {" + enough[2:] + "} }":                    denoted(graph(cluster("c", slices.Repeat(body(node("a")), statements-1)...))),
		"graph g {" + strings.Repeat("cluster c{}", statements) + "}":   denoted(graph(slices.Repeat(body(cluster("c")), statements)...)),
		"graph g {" + strings.Repeat("cluster c{}", statements+1) + "}": failed(0, api.ErrLimit),
	} {
		if got := parse(src); !got.equals(want) {
			t.Errorf("%q: %v; want %v", src, got, want)
		}
	}
}

// P9.1: a chain has no limit of its own.
func TestLongChain(t *testing.T) {
	refs := []string{}
	for i := range 2000 {
		refs = append(refs, "n"+string(rune('a'+i%26))+[]string{"", ":p"}[i%2])
	}
	if got := parse("digraph g {" + strings.Join(refs, "->") + "[k=v];}"); !got.equals(denoted(digraph(edge(refs, attr("k", "v"))))) {
		t.Errorf("a chain of %d refs: %v", len(refs), got)
	}
}

// P9.2
func TestParseAttrs(t *testing.T) {
	full, texts := fullList(most, "x y"), []string{}
	for _, a := range fullList(most+1, "x y") {
		texts = append(texts, a.Key+`="x y"`)
	}
	for src, want := range map[string][]api.Attr{
		"[]":                                  nil,
		"\n[ # none\n ]\n":                    nil,
		"[a=b]":                               {attr("a", "b")},
		`[width=2.5, label="x y"]`:            {attr("width", "2.5"), attr("label", "x y")},
		"[width=2.5,\nlabel=\"x y\"]":         {attr("width", "2.5"), attr("label", "x y")},
		`[c=3,a="",A=-1,b=c]`:                 {attr("c", "3"), attr("a", ""), attr("A", "-1"), attr("b", "c")},
		"[abcdefghijklmnop=abcdefghijklmnop]": {attr("abcdefghijklmnop", "abcdefghijklmnop")},
		"[" + strings.Join(texts[:most], ",") + "]": full,
	} {
		if got := parseAttrs(src); !got.equals(denoted(owner(want))) {
			t.Errorf("%q: %v; want %v", src, got, want)
		}
	}
	for src, want := range map[string]outcome{
		"":                                    failed(1, api.ErrSyntax),
		"\n# nothing\n":                       failed(1, api.ErrSyntax),
		"\n[":                                 failed(2, api.ErrSyntax),
		"[\n\na\n":                            failed(3, api.ErrSyntax),
		"[a\n]":                               failed(2, api.ErrSyntax),
		"[a=\n]":                              failed(2, api.ErrSyntax),
		"[a=1\n":                              failed(1, api.ErrSyntax),
		"[a=1,\n]":                            failed(2, api.ErrSyntax),
		"[a=1\nb=2]":                          failed(2, api.ErrSyntax),
		"[\n,a=1]":                            failed(2, api.ErrSyntax),
		"[\nnode=1]":                          failed(2, api.ErrSyntax),
		"[\n\"a\"=1]":                         failed(2, api.ErrSyntax),
		"[a=\ncluster]":                       failed(2, api.ErrSyntax),
		"[width=2.50]":                        failed(1, api.ErrSyntax),
		"[a=1]\nx":                            failed(2, api.ErrSyntax),
		"[a=1]\n;":                            failed(2, api.ErrSyntax),
		"[a=1]\n[a=1]":                        failed(2, api.ErrSyntax),
		"[]\n]":                               failed(2, api.ErrSyntax),
		"\na=1":                               failed(2, api.ErrSyntax),
		"{ }":                                 failed(1, api.ErrSyntax),
		`"["`:                                 failed(1, api.ErrSyntax),
		"graph g {}":                          failed(1, api.ErrSyntax),
		"\n[a=1,\na=2]":                       failed(0, api.ErrDup),
		`[a=1,b=1,a="1"]`:                     failed(0, api.ErrDup),
		"[a=1,a=2]\n]":                        failed(2, api.ErrSyntax),
		"[a=1,a=2\n":                          failed(1, api.ErrSyntax),
		"[a=1,a=\"":                           failed(1, api.ErrRange),
		"[" + strings.Join(texts, ",") + "]":  failed(0, api.ErrLimit),
		"[" + strings.Join(texts, ",") + ",]": failed(1, api.ErrSyntax),
		"[a=1,a=2," + strings.Join(texts, ",") + "]":     failed(0, api.ErrLimit),
		"[a=1,a=2," + strings.Join(texts[:3], ",") + "]": failed(0, api.ErrDup),
	} {
		if got := parseAttrs(src); !got.equals(want) {
			t.Errorf("%q: %v; want %v", src, got, want)
		}
	}
}

// P9.1, P9.2: one part of a source is left out, put in or replaced by each
// symbol, or the source ends with it.
func TestOneChange(t *testing.T) {
	for _, c := range []struct {
		attrsOnly bool
		text      string
	}{
		{false, sample()},
		{false, strings.ReplaceAll(strings.Replace(sample(), "digraph", "graph", 1), "->", "--")},
		{false, "graph g { " + strings.Repeat("cluster c { ", depth) + strings.Repeat("} ", depth+1)},
		{true, `[a=1, b=c, x="d e"]`},
		{true, "[]"},
	} {
		list := parts(c.text)
		if got := check(t, c.attrsOnly, list); got != api.OK {
			t.Errorf("%q: %d", c.text, got)
		}
		for i := range len(list) + 1 {
			check(t, c.attrsOnly, list[:i])
			for _, s := range symbols() {
				check(t, c.attrsOnly, slices.Insert(slices.Clone(list), i, s))
			}
			if i == len(list) {
				continue
			}
			check(t, c.attrsOnly, slices.Delete(slices.Clone(list), i, i+1))
			for _, s := range symbols() {
				check(t, c.attrsOnly, slices.Concat(list[:i], []part{s}, list[i+1:]))
			}
		}
	}
}

// P9.1, P9.2: all short lists of symbols behind beginnings of a source.
func TestShortSources(t *testing.T) {
	for _, c := range []struct {
		attrsOnly bool
		before    string
		length    int
	}{
		{false, "", 2},
		{false, "digraph g {", 2},
		{false, "graph g { a", 2},
		{false, "graph g { a -- b", 2},
		{false, "digraph g { a:p", 2},
		{false, "graph g { node", 2},
		{false, "graph g { set a", 2},
		{false, "graph g { cluster c", 2},
		{false, "graph g { cluster c {", 2},
		{true, "", 3},
		{true, "[a=1", 2},
	} {
		lists := [][]part{parts(c.before)}
		for range c.length {
			longer := [][]part{}
			for _, l := range lists {
				check(t, c.attrsOnly, l)
				for _, s := range symbols() {
					longer = append(longer, append(slices.Clip(l), s))
				}
			}
			lists = longer
		}
		for _, l := range lists {
			check(t, c.attrsOnly, l)
		}
	}
}

// maker makes random sources and trees.
type maker struct{ *rand.Rand }

func (m maker) pick(l ...string) string {
	return l[m.IntN(len(l))]
}

func (m maker) name() string {
	return m.pick("a", "b", "c", "x1", "_", "Node", "digraphs", "abcdefghijklmnop")
}

func (m maker) value() string {
	switch m.IntN(4) {
	case 0:
		return m.name()
	case 1:
		return m.pick("node", "edge", "set", "cluster", "", "abcdefghijklmnopq", "a b", "a, b=c]", `"`, `\`, `a="b"`, "# {", "-0", "1.50", "268435.457")
	case 2:
		return m.pick("0", "7", "-1", "0.5", "-0.005", "268435.456", "-268435.456", "12.34")
	}
	val := make([]byte, m.IntN(label+1))
	for i := range val {
		val[i] = byte(32 + m.IntN(95))
	}
	return string(val)
}

// list returns up to four attributes.
func (m maker) list() []api.Attr {
	l := []api.Attr{}
	for _, i := range m.Perm(4)[:m.IntN(5)] {
		l = append(l, attr(string(rune('a'+i)), m.value()))
	}
	return l
}

func (m maker) refs() []string {
	refs := []string{}
	for range 2 + m.IntN(3) {
		refs = append(refs, m.name()+m.pick("", ":"+m.name()))
	}
	return refs
}

// body returns up to four statements, with clusters of up to so many levels.
func (m maker) body(levels int) []api.Stmt {
	list := []api.Stmt{}
	for range m.IntN(5) {
		list = append(list, m.statement(levels))
	}
	return list
}

func (m maker) statement(levels int) api.Stmt {
	switch m.IntN(5) {
	case 0:
		return node(m.name(), m.list()...)
	case 1:
		return edge(m.refs(), m.list()...)
	case 2:
		return defaults(m.pick("node", "edge"), m.list()...)
	case 3:
		return set(m.name(), m.value())
	}
	if levels == 0 {
		return node(m.name())
	}
	return cluster(m.name(), m.body(levels-1)...)
}

func (m maker) tree() api.Tree {
	return api.Tree{Name: m.name(), Directed: m.IntN(2) == 0, Body: m.body(depth)}
}

// source returns a source of the parts, with blanks and comments of all kinds
// between them, and none where none is needed, and the lines of the parts.
func (m maker) source(list []part) (string, []int) {
	text, lines := strings.Builder{}, []int{}
	blanks := func(needed bool) {
		for range m.IntN(3) {
			text.WriteString(m.pick(" ", "\t", "\n", "\n\n", "# -> { \"\n", "#\n", "#é\xff\x00\n", "  "))
			needed = false
		}
		if needed {
			text.WriteString(m.pick(" ", "\t", "\n", "# a;\n"))
		}
	}
	joins := func(p part) bool {
		return keywordForm.MatchString(p.text) || p.symbol == "NAME" || p.symbol == "NUMBER"
	}
	for i, p := range list {
		blanks(i > 0 && (joins(list[i-1]) && joins(p) || p.symbol == "NUMBER" || p.symbol == "--" || p.symbol == "->"))
		lines = append(lines, 1+strings.Count(text.String(), "\n"))
		text.WriteString(p.text)
	}
	blanks(false)
	return text.String() + m.pick("", "# the end", "#"), lines
}

// written returns the parts of a source of t, in which values are written in
// any way that denotes them, and empty brackets stand here and there.
func (m maker) written(t api.Tree) []part {
	list := []part{}
	texts := plainTree(t)
	for i, s := range texts {
		val, ok := strings.CutPrefix(s, "value ")
		switch _, err := fixed.Parse(val); {
		case !ok && (s == ";" && i > 1 && wordForm.MatchString(texts[i-1]) && !keywordForm.MatchString(texts[i-1])) && m.IntN(4) == 0:
			list = append(list, part{"[", "["}, part{"]", "]"}, part{";", ";"})
		case !ok:
			list = append(list, parts(s)...)
		case (err == api.OK || lexer.IsName(val)) && m.IntN(3) > 0:
			list = append(list, parts(val)...)
		default:
			list = append(list, part{"STRING", `"` + strings.NewReplacer(`\`, `\\`, `"`, `\"`).Replace(val) + `"`})
		}
	}
	return list
}

// P9.1, P9.3: random trees are what their sources denote, whatever stands
// between the tokens, and errors keep their tokens' lines.
func TestRandomSources(t *testing.T) {
	m := maker{rand.New(rand.NewPCG(9, 1))}
	for range 5000 {
		x := m.tree()
		list := m.written(x)
		src, _ := m.source(list)
		want := denoted(x)
		if err := tree.Valid(x); err != api.OK {
			want = failed(0, err)
		}
		if len(src) > api.MaxSource {
			want = failed(0, api.ErrLimit)
		}
		if got := parse(src); !got.equals(want) {
			t.Fatalf("%q: %v; want %v", src, got, want)
		}
		i := m.IntN(len(list))
		list[i] = symbols()[m.IntN(len(symbols()))]
		src, lines := m.source(list)
		if at, err, ok := wantedError("<tree>", list); ok && len(src) <= api.MaxSource {
			if got := parse(src); !got.equals(failed(lines[at], err)) {
				t.Fatalf("%q: %v; want %d in line %d", src, got, err, lines[at])
			}
		}
	}
}

// P9.1, P9.2: sources with several changes.
func TestRandomChanges(t *testing.T) {
	m := maker{rand.New(rand.NewPCG(9, 2))}
	counts := map[api.Errno]int{}
	for range 5000 {
		list := m.written(m.tree())
		attrsOnly := m.IntN(3) == 0
		if attrsOnly {
			list = parts(printer.Attrs(append(m.list(), attr("k", m.value()))))
		}
		for range m.IntN(4) {
			if i := m.IntN(len(list) + 1); m.IntN(2) == 0 {
				list = slices.Insert(list, i, symbols()[m.IntN(len(symbols()))])
			} else {
				list = slices.Delete(list, i, min(i+1+m.IntN(3), len(list)))
			}
		}
		if len(spelled(list)) <= api.MaxSource {
			counts[check(t, attrsOnly, list)]++
		}
	}
	if counts[api.OK] < 500 || counts[api.ErrSyntax] < 500 {
		t.Errorf("outcomes: %v", counts)
	}
}

// P9.3: canonical texts.
func TestCanonicalTexts(t *testing.T) {
	m := maker{rand.New(rand.NewPCG(9, 3))}
	trees := []api.Tree{
		graph(),
		digraph(),
		graph(slices.Repeat(body(node("a")), statements)...),
		graph(slices.Repeat(body(cluster("c")), statements)...),
		digraph(node("a", fullList(most, strings.Repeat(`"`, label))...), defaults("edge", fullList(most, strings.Repeat("x", label))...)),
	}
	for range 5000 {
		trees = append(trees, m.tree())
	}
	printed := 0
	for _, x := range trees {
		text := printer.Print(x)
		want := denoted(x)
		switch {
		case text == "":
			continue
		case len(text) > api.MaxSource:
			want = failed(0, api.ErrLimit)
		}
		printed++
		if got := parse(text); !got.equals(want) {
			t.Fatalf("%q: %v; want %v", text, got, want)
		}
		for _, s := range x.Body {
			list := printer.Attrs(s.Attrs)
			if list == "" {
				continue
			}
			if got := parseAttrs(list); !got.equals(denoted(owner(s.Attrs))) {
				t.Fatalf("%q: %v", list, got)
			}
		}
	}
	if printed < 4000 {
		t.Errorf("only %d trees have a text", printed)
	}
}

// P9.3, 0.1, 0.3: whatever the bytes are, what is returned is valid, or an error
// alone; and the canonical text of a tree denotes it again.
func TestRandomBytes(t *testing.T) {
	m := maker{rand.New(rand.NewPCG(9, 4))}
	words := []string{"digraph", "graph", "node", "edge", "set", "cluster", " ", "\n", "a", "b1", "{", "}", "[", "]", ";", ",", "=", ":", "->", "--", "1", "-2.5", `"`, `"x"`, `\`, "#", "-", "\x00", "é", "\xff"}
	for i := range 20000 {
		text := []byte{}
		if i%2 == 0 {
			src, _ := m.source(m.written(m.tree()))
			text = []byte(src)
		}
		for range m.IntN(10) {
			at := m.IntN(len(text) + 1)
			text = slices.Insert(text, at, []byte(words[m.IntN(len(words))])...)
			at = m.IntN(len(text) + 1)
			text = slices.Delete(text, at, min(at+m.IntN(2), len(text)))
		}
		src := string(text)
		for _, o := range []outcome{parse(src), parseAttrs(src)} {
			_, line, err := lexer.Tokenize(src)
			switch {
			case err != api.OK && !o.equals(failed(line, err)):
				t.Fatalf("%q: %v; Tokenize: %d in line %d", src, o, err, line)
			case o.err != api.OK && (!tree.Equal(o.tree, api.Tree{}) || o.line < 0 || o.line > 1+strings.Count(src, "\n")):
				t.Fatalf("%q: %v", src, o)
			case o.err == api.OK && (o.line != 0 || tree.Valid(o.tree) != api.OK):
				t.Fatalf("%q: %v, which is not valid", src, o)
			case o.err == api.OK && len(printer.Print(o.tree)) <= api.MaxSource && !parse(printer.Print(o.tree)).equals(o):
				t.Fatalf("%q: %v, with the text %q", src, o, printer.Print(o.tree))
			}
		}
	}
}

// 0.4, 0.9: each call returns new memory, and equal results; no two slices of a
// result share memory.
func TestNewMemory(t *testing.T) {
	const attrs = "[a=1, b=2]"
	first, _, _ := parser.Parse(sample())
	want, _, _ := parser.Parse(sample())
	scramble(first.Body[:1:1])
	if !tree.Equal(api.Tree{Body: first.Body[1:]}, api.Tree{Body: want.Body[1:]}) {
		t.Errorf("after a change of the first statement the others are %v", first.Body[1:])
	}
	scramble(first.Body)
	if got, _, _ := parser.Parse(sample()); !tree.Equal(got, want) {
		t.Errorf("the next call returns %v; want %v", got, want)
	}
	for i := range want.Body {
		x, _, _ := parser.Parse(sample())
		scramble(x.Body[i : i+1 : i+1])
		x.Body[i] = want.Body[i]
		if !tree.Equal(x, want) {
			t.Errorf("after a change of the statement %d: %v; want %v", i, x, want)
		}
	}
	l, _, _ := parser.ParseAttrs(attrs)
	clear(l[:cap(l)])
	if got, _, _ := parser.ParseAttrs(attrs); !slices.Equal(got, []api.Attr{attr("a", "1"), attr("b", "2")}) {
		t.Errorf("the next call returns %v", got)
	}
}

// scramble changes all statements of body, with what lies behind the ends of
// their slices.
func scramble(body []api.Stmt) {
	for i := range body[:cap(body)] {
		s := &body[:cap(body)][i]
		scramble(s.Body)
		clear(s.Refs[:cap(s.Refs)])
		clear(s.Attrs[:cap(s.Attrs)])
		*s = api.Stmt{}
	}
}
