package lexer_test

import (
	"math"
	"math/rand/v2"
	"regexp"
	"slices"
	"strings"
	"testing"

	"layout/api"
	"layout/fixed"
	"layout/lexer"
)

const (
	limit  = api.MaxCoord
	source = api.MaxSource
	label  = api.MaxLabel
)

// outcome is what Tokenize returns.
type outcome struct {
	list []api.Token
	line int
	err  api.Errno
}

func (o outcome) equals(p outcome) bool {
	return slices.Equal(o.list, p.list) && o.line == p.line && o.err == p.err
}

func tokenize(src string) outcome {
	list, line, err := lexer.Tokenize(src)
	return outcome{list, line, err}
}

func failed(line int, err api.Errno) outcome {
	return outcome{nil, line, err}
}

// keywords returns the keywords.
func keywords() []string {
	return []string{"digraph", "graph", "node", "edge", "set", "cluster"}
}

// marks returns the marks.
func marks() []string {
	return []string{"{", "}", "[", "]", ";", ",", "=", ":", "->", "--"}
}

func name(s string) api.Token    { return api.Token{Kind: api.TkName, Text: s, Line: 1} }
func keyword(s string) api.Token { return api.Token{Kind: api.TkKeyword, Text: s, Line: 1} }
func number(n int) api.Token     { return api.Token{Kind: api.TkNumber, N: n, Line: 1} }
func text(s string) api.Token    { return api.Token{Kind: api.TkString, Text: s, Line: 1} }
func mark(s string) api.Token    { return api.Token{Kind: api.TkMark, Text: s, Line: 1} }

// on returns the token t with another line.
func on(line int, t api.Token) api.Token {
	t.Line = line
	return t
}

// printable returns the bytes from 32 to 126.
func printable() string {
	list := []byte{}
	for c := byte(32); c <= 126; c++ {
		list = append(list, c)
	}
	return string(list)
}

// quoted returns the string with the contents s, as it is written.
func quoted(s string) string {
	return `"` + strings.ReplaceAll(strings.ReplaceAll(s, `\`, `\\`), `"`, `\"`) + `"`
}

// written returns a valid token as it is written.
func written(t api.Token) string {
	switch t.Kind {
	case api.TkNumber:
		return fixed.Format(t.N)
	case api.TkString:
		return quoted(t.Text)
	}
	return t.Text
}

// The forms of what may begin a source.
var (
	blankForm   = regexp.MustCompile(`^(?:[ \t\n]|#[^\n]*)*`)
	wordForm    = regexp.MustCompile(`^[a-zA-Z_][a-zA-Z0-9_]*`)
	numberForm  = regexp.MustCompile(`^-?[0-9][a-zA-Z0-9_.]*`)
	markForm    = regexp.MustCompile(`^(?:[{}\[\];,=:]|->|--)`)
	keywordForm = regexp.MustCompile(`^(?:digraph|graph|node|edge|set|cluster)$`)
	stringForm  = regexp.MustCompile(`^"(?:[ !#-\[\]-~]|\\["\\]){0,32}"`)
	// A string that ends too early, and one that is too long.
	openForm = regexp.MustCompile(`^"(?:[ !#-\[\]-~]|\\["\\]){0,32}\\?(?:\n|$)`)
	longForm = regexp.MustCompile(`^"(?:[ !#-\[\]-~]|\\["\\]){33}`)
	escapes  = strings.NewReplacer(`\\`, `\`, `\"`, `"`)
)

// wanted returns what the chapter says of src, read by regular expressions.
func wanted(src string) outcome {
	if len(src) > source {
		return failed(0, api.ErrLimit)
	}
	list := []api.Token{}
	for at := 0; ; {
		at += len(blankForm.FindString(src[at:]))
		if at == len(src) {
			return outcome{list, 0, api.OK}
		}
		line := 1 + strings.Count(src[:at], "\n")
		token, length, err := wantedToken(src[at:])
		if err != api.OK {
			return failed(line, err)
		}
		list = append(list, on(line, token))
		at += length
	}
}

// wantedToken returns the token that src begins with, and its length.
func wantedToken(src string) (api.Token, int, api.Errno) {
	if s := wordForm.FindString(src); s != "" {
		switch {
		case keywordForm.MatchString(s):
			return keyword(s), len(s), api.OK
		case len(s) > 16:
			return api.Token{}, 0, api.ErrLimit
		}
		return name(s), len(s), api.OK
	}
	if s := numberForm.FindString(src); s != "" {
		n, err := fixed.Parse(s)
		return number(n), len(s), err
	}
	if s := markForm.FindString(src); s != "" {
		return mark(s), len(s), api.OK
	}
	if s := stringForm.FindString(src); s != "" {
		return text(escapes.Replace(s[1 : len(s)-1])), len(s), api.OK
	}
	switch {
	case openForm.MatchString(src):
		return api.Token{}, 0, api.ErrRange
	case longForm.MatchString(src):
		return api.Token{}, 0, api.ErrLimit
	}
	return api.Token{}, 0, api.ErrSyntax
}

// randomToken returns a valid token with the line 1.
func randomToken(random *rand.Rand) api.Token {
	pick := func(from string, length int) string {
		list := []byte{}
		for range length {
			list = append(list, from[random.IntN(len(from))])
		}
		return string(list)
	}
	switch random.IntN(6) {
	case 0:
		s := pick("aZ_xQ", 1) + pick("azAZ_019", random.IntN(16))
		return name(s)
	case 1:
		return keyword(keywords()[random.IntN(6)])
	case 2:
		return number(random.IntN(20001) - 10000)
	case 3:
		return number(random.IntN(2*limit+1) - limit)
	case 4:
		return text(pick(printable()+`"\"\"\`, random.IntN(label+1)))
	}
	return mark(marks()[random.IntN(10)])
}

// randomTokens returns up to twenty valid tokens.
func randomTokens(random *rand.Rand) []api.Token {
	list := []api.Token{}
	for range random.IntN(21) {
		list = append(list, randomToken(random))
	}
	return list
}

// P6.1
func TestIsName(t *testing.T) {
	names := []string{"a", "z", "A", "Z", "_", "__", "a1", "_1", "aB_9", "Node", "NODE", "nodes", "nod", "sets", "_set", "set1", "subgraph", "strict", "clusters", "abcdefghijklmnop", "________________", "A234567890123456"}
	for _, s := range names {
		if !lexer.IsName(s) {
			t.Errorf("%q is a name", s)
		}
	}
	others := []string{"", " ", "1", "1a", "9", "-", "-a", "a-b", "a b", " a", "a ", "a\n", "\na", "a.b", ".", "a:b", "a\x00", "\x00", "é", "aé", "a\xff", "\xff", "ſet", "Ａ", "a٣", "\"a\"", "{", "->", "abcdefghijklmnopq", "_________________", strings.Repeat("a", 1<<16), strings.Repeat("a", 16) + "\n"}
	for _, s := range slices.Concat(others, keywords()) {
		if lexer.IsName(s) {
			t.Errorf("%q is no name", s)
		}
	}
}

// P6.1
func TestIsNameBytes(t *testing.T) {
	const letters = "abcdefghijklmnopqrstuvwxyzABCDEFGHIJKLMNOPQRSTUVWXYZ_"
	const digits = "0123456789"
	for i := range 256 {
		c := string([]byte{byte(i)})
		if got := lexer.IsName(c); got != strings.Contains(letters, c) {
			t.Errorf("IsName(%q) = %t", c, got)
		}
		for _, s := range []string{"x" + c, "x" + c + "y", "_" + c + "0"} {
			if got := lexer.IsName(s); got != strings.Contains(letters+digits, c) {
				t.Errorf("IsName(%q) = %t", s, got)
			}
		}
	}
}

// P6.1
func TestIsKeyword(t *testing.T) {
	for _, s := range keywords() {
		if !lexer.IsKeyword(s) {
			t.Errorf("%q is a keyword", s)
		}
		for _, other := range []string{s + "s", "_" + s, s[1:], s[:len(s)-1], strings.ToUpper(s), strings.ToUpper(s[:1]) + s[1:], " " + s, s + " ", s + "\n", s + "\x00", s + s} {
			if lexer.IsKeyword(other) && other != "graph" {
				t.Errorf("%q is no keyword", other)
			}
		}
	}
	for _, s := range []string{"", "a", "_", "1", "->", "{", "subgraph", "strict", "label", "é", "\xff", strings.Repeat("node", 1<<14)} {
		if lexer.IsKeyword(s) {
			t.Errorf("%q is no keyword", s)
		}
	}
}

// P6.2
func TestQuote(t *testing.T) {
	full := strings.Repeat("x", label)
	for _, c := range []struct {
		s, want string
		err     api.Errno
	}{
		{`a"b`, `"a\"b"`, api.OK},
		{"", `""`, api.OK},
		{" ", `" "`, api.OK},
		{"~", `"~"`, api.OK},
		{`"`, `"\""`, api.OK},
		{`\`, `"\\"`, api.OK},
		{`\"`, `"\\\""`, api.OK},
		{`"\`, `"\"\\"`, api.OK},
		{`\n`, `"\\n"`, api.OK},
		{"# { -> 'a'", `"# { -> 'a'"`, api.OK},
		{full, `"` + full + `"`, api.OK},
		{strings.Repeat(`"`, label), `"` + strings.Repeat(`\"`, label) + `"`, api.OK},
		{strings.Repeat(`\`, label), `"` + strings.Repeat(`\\`, label) + `"`, api.OK},
		{full + "x", "", api.ErrLimit},
		{strings.Repeat(`"`, label+1), "", api.ErrLimit},
		{strings.Repeat("x", 1<<16), "", api.ErrLimit},
		{strings.Repeat("x", 1<<16+1), "", api.ErrLimit},
		{"\x1f", "", api.ErrArg},
		{"\x7f", "", api.ErrArg},
		{"\x80", "", api.ErrArg},
		{"\xff", "", api.ErrArg},
		{"\x00", "", api.ErrArg},
		{"a\n", "", api.ErrArg},
		{"\ta", "", api.ErrArg},
		{"a\rb", "", api.ErrArg},
		{"é", "", api.ErrArg},
		{"ab\u0120", "", api.ErrArg},
		{"\u2028", "", api.ErrArg},
		{"\ufffd", "", api.ErrArg},
		{full[1:] + "\n", "", api.ErrArg},
		{full[2:] + "é", "", api.ErrArg},
		{full[1:] + "é", "", api.ErrLimit}, // 33 bytes, 32 characters
		{full + "\n", "", api.ErrLimit},
		{"\n" + full, "", api.ErrLimit},
		{strings.Repeat("\xff", label+1), "", api.ErrLimit},
	} {
		if got, err := lexer.Quote(c.s); got != c.want || err != c.err {
			t.Errorf("Quote(%q) = %q, %d; want %q, %d", c.s, got, err, c.want, c.err)
		}
	}
}

// P6.2: every byte, alone and between others.
func TestQuoteBytes(t *testing.T) {
	for i := range 256 {
		c := string([]byte{byte(i)})
		for _, s := range []string{c, "a" + c, c + "a", `"` + c + `\`} {
			want, wantErr := quoted(s), api.OK
			if i < 32 || i > 126 {
				want, wantErr = "", api.ErrArg
			}
			if got, err := lexer.Quote(s); got != want || err != wantErr {
				t.Errorf("Quote(%q) = %q, %d; want %q, %d", s, got, err, want, wantErr)
			}
		}
	}
}

// P6.3
func TestTokenize(t *testing.T) {
	for _, c := range []struct {
		src  string
		want []api.Token
	}{
		{"a->b", []api.Token{name("a"), mark("->"), name("b")}},
		{"x=-1.5;", []api.Token{name("x"), mark("="), number(-1500), mark(";")}},
		{`"a\"b"`, []api.Token{text(`a"b`)}},
		{"", nil},
		{" \t ", nil},
		{"a", []api.Token{name("a")}},
		{"a b", []api.Token{name("a"), name("b")}},
		{"a\tb", []api.Token{name("a"), name("b")}},
		{"ab_1 _c", []api.Token{name("ab_1"), name("_c")}},
		{"digraph graph node edge set cluster", []api.Token{keyword("digraph"), keyword("graph"), keyword("node"), keyword("edge"), keyword("set"), keyword("cluster")}},
		{"nodes Node set_ _set", []api.Token{name("nodes"), name("Node"), name("set_"), name("_set")}},
		{"set;node", []api.Token{keyword("set"), mark(";"), keyword("node")}},
		{"abcdefghijklmnop", []api.Token{name("abcdefghijklmnop")}},
		{"{}[];,=:->--", []api.Token{mark("{"), mark("}"), mark("["), mark("]"), mark(";"), mark(","), mark("="), mark(":"), mark("->"), mark("--")}},
		{"--->", []api.Token{mark("--"), mark("->")}},
		{"->->", []api.Token{mark("->"), mark("->")}},
		{"0", []api.Token{number(0)}},
		{"1 12 0.5 -0.001 100", []api.Token{number(1000), number(12000), number(500), number(-1), number(100000)}},
		{"268435.456 -268435.456", []api.Token{number(limit), number(-limit)}},
		{"1-2", []api.Token{number(1000), number(-2000)}},
		{"1->2", []api.Token{number(1000), mark("->"), number(2000)}},
		{"1--2", []api.Token{number(1000), mark("--"), number(2000)}},
		{"1---2", []api.Token{number(1000), mark("--"), number(-2000)}},
		{"->-2", []api.Token{mark("->"), number(-2000)}},
		{"a-1", []api.Token{name("a"), number(-1000)}},
		{"a1", []api.Token{name("a1")}},
		{"a--b", []api.Token{name("a"), mark("--"), name("b")}},
		{"1;2", []api.Token{number(1000), mark(";"), number(2000)}},
		{"1\"a\"2", []api.Token{number(1000), text("a"), number(2000)}},
		{"a\"b\"c", []api.Token{name("a"), text("b"), name("c")}},
		{`""`, []api.Token{text("")}},
		{`""""`, []api.Token{text(""), text("")}},
		{`"\\"`, []api.Token{text(`\`)}},
		{`"\""`, []api.Token{text(`"`)}},
		{`"\\\""`, []api.Token{text(`\"`)}},
		{`"\\""\""`, []api.Token{text(`\`), text(`"`)}},
		{`"a # b"`, []api.Token{text("a # b")}},
		{`"1 -> {};" x`, []api.Token{text("1 -> {};"), name("x")}},
		{`"set"set`, []api.Token{text("set"), keyword("set")}},
		{"#", nil},
		{"# a", nil},
		{"#\n", nil},
		{"##\n#\"\n# -\n", nil},
		{"a# b", []api.Token{name("a")}},
		{"1#2", []api.Token{number(1000)}},
		{"->#\"", []api.Token{mark("->")}},
		{"# \xff\x00\r\"é", nil},
		{"#\r a", nil},
	} {
		if got := tokenize(c.src); !got.equals(outcome{c.want, 0, api.OK}) {
			t.Errorf("Tokenize(%q) = %v; want %v", c.src, got, c.want)
		}
	}
}

// P6.3: lines are counted from 1, also in comments and behind tokens.
func TestTokenizeLines(t *testing.T) {
	for _, c := range []struct {
		src  string
		want []api.Token
	}{
		{"\na", []api.Token{on(2, name("a"))}},
		{"a\nb", []api.Token{name("a"), on(2, name("b"))}},
		{"a\n\n\nb\n", []api.Token{name("a"), on(4, name("b"))}},
		{" \n\t\n a", []api.Token{on(3, name("a"))}},
		{"# x\na", []api.Token{on(2, name("a"))}},
		{"a # x\n# y\n\n1 # z", []api.Token{name("a"), on(4, number(1000))}},
		{"a#\n->\n\"b\"\nset", []api.Token{name("a"), on(2, mark("->")), on(3, text("b")), on(4, keyword("set"))}},
		{"\n\n\"\\\"\" a\nb", []api.Token{on(3, text(`"`)), on(3, name("a")), on(4, name("b"))}},
		{strings.Repeat("\n", source-1) + "a", []api.Token{on(source, name("a"))}},
	} {
		if got := tokenize(c.src); !got.equals(outcome{c.want, 0, api.OK}) {
			t.Errorf("Tokenize(%.40q) = %v; want %v", c.src, got, c.want)
		}
	}
}

// P6.3: the errors, each with its line and without tokens.
func TestTokenizeErrors(t *testing.T) {
	full := strings.Repeat("x", label)
	for _, c := range []struct {
		src  string
		line int
		err  api.Errno
	}{
		{"1a", 1, api.ErrSyntax},
		{"-", 1, api.ErrSyntax},
		{"a\n-", 2, api.ErrSyntax},
		{"- 1", 1, api.ErrSyntax},
		{"-a", 1, api.ErrSyntax},
		{"-_", 1, api.ErrSyntax},
		{"-.5", 1, api.ErrSyntax},
		{"-\n>", 1, api.ErrSyntax},
		{"-é", 1, api.ErrSyntax},
		{"---", 1, api.ErrSyntax},
		{"---->", 1, api.ErrSyntax},
		{">", 1, api.ErrSyntax},
		{"a>b", 1, api.ErrSyntax},
		{"<-", 1, api.ErrSyntax},
		{".", 1, api.ErrSyntax},
		{".5", 1, api.ErrSyntax},
		{"a.b", 1, api.ErrSyntax},
		{"(", 1, api.ErrSyntax},
		{"'a'", 1, api.ErrSyntax},
		{`\`, 1, api.ErrSyntax},
		{"/", 1, api.ErrSyntax},
		{"\r", 1, api.ErrSyntax},
		{"a\r\nb", 1, api.ErrSyntax},
		{"\v", 1, api.ErrSyntax},
		{"\x00", 1, api.ErrSyntax},
		{"\x7f", 1, api.ErrSyntax},
		{"\xff", 1, api.ErrSyntax},
		{"é", 1, api.ErrSyntax},
		{"aé", 1, api.ErrSyntax},
		{"1é", 1, api.ErrSyntax},
		{"\ufeffa", 1, api.ErrSyntax},
		{"\u00a0", 1, api.ErrSyntax},
		{"\u0662", 1, api.ErrSyntax},
		// Numbers that are none.
		{"01", 1, api.ErrSyntax},
		{"-01", 1, api.ErrSyntax},
		{"-0", 1, api.ErrSyntax},
		{"0.0", 1, api.ErrSyntax},
		{"1.", 1, api.ErrSyntax},
		{"1.50", 1, api.ErrSyntax},
		{"1.2345", 1, api.ErrSyntax},
		{"1..2", 1, api.ErrSyntax},
		{"1.2.3", 1, api.ErrSyntax},
		{"1_0", 1, api.ErrSyntax},
		{"1e3", 1, api.ErrSyntax},
		{"0x1", 1, api.ErrSyntax},
		{"-1a", 1, api.ErrSyntax},
		{"1a->", 1, api.ErrSyntax},
		{"1node", 1, api.ErrSyntax},
		{"5.a", 1, api.ErrSyntax},
		{"268435.457", 1, api.ErrOverflow},
		{"-268435.457", 1, api.ErrOverflow},
		{"268436", 1, api.ErrOverflow},
		{strings.Repeat("9", 1000), 1, api.ErrOverflow},
		{"18446744073709551616", 1, api.ErrOverflow},
		{strings.Repeat("9", 1000) + "x", 1, api.ErrSyntax},
		// Names that are too long.
		{"abcdefghijklmnopq", 1, api.ErrLimit},
		{"_________________", 1, api.ErrLimit},
		{"digraphgraphnodeedge", 1, api.ErrLimit},
		{strings.Repeat("a", source), 1, api.ErrLimit},
		// Strings that do not end.
		{`"`, 1, api.ErrRange},
		{`"a`, 1, api.ErrRange},
		{`"\`, 1, api.ErrRange},
		{`"\"`, 1, api.ErrRange},
		{`"\\`, 1, api.ErrRange},
		{`"\\\"`, 1, api.ErrRange},
		{"\"\n\"", 1, api.ErrRange},
		{"\"\\\n\"", 1, api.ErrRange},
		{"\n\"a\n\"", 2, api.ErrRange},
		{`"""`, 1, api.ErrRange},
		{`"` + full, 1, api.ErrRange},
		{`"` + full + `\`, 1, api.ErrRange},
		{`"` + full + "\n", 1, api.ErrRange},
		{`"` + full + "\\\n", 1, api.ErrRange},
		// Strings with other bytes, or other escapes.
		{"\"\t\"", 1, api.ErrSyntax},
		{"\"\r\n", 1, api.ErrSyntax},
		{"\"\x00\"", 1, api.ErrSyntax},
		{"\"\x1f\"", 1, api.ErrSyntax},
		{"\"\x7f\"", 1, api.ErrSyntax},
		{"\"\x80\"", 1, api.ErrSyntax},
		{"\"é\"", 1, api.ErrSyntax},
		{"\"\\é\"", 1, api.ErrSyntax},
		{"\"\u010a\"", 1, api.ErrSyntax},
		{"\"\u0122\"", 1, api.ErrSyntax},
		{"\"\xff", 1, api.ErrSyntax},
		{`"\a"`, 1, api.ErrSyntax},
		{`"\n"`, 1, api.ErrSyntax},
		{`"\ "`, 1, api.ErrSyntax},
		{"\"\\\t\"", 1, api.ErrSyntax},
		{`"\\\a"`, 1, api.ErrSyntax},
		{"\"\t\n", 1, api.ErrSyntax},
		{`"` + full + "\t", 1, api.ErrSyntax},
		{`"` + full + "é", 1, api.ErrSyntax},
		{`"` + full + `\a`, 1, api.ErrSyntax},
		// Strings that are too long.
		{`"` + full + `x"`, 1, api.ErrLimit},
		{`"` + full + "x", 1, api.ErrLimit},
		{`"` + full + `\"`, 1, api.ErrLimit},
		{`"` + full + `\\"`, 1, api.ErrLimit},
		{`"` + full + "x\t", 1, api.ErrLimit},
		{`"` + full + "x\n", 1, api.ErrLimit},
		{`"` + full + `x\a`, 1, api.ErrLimit},
		{`"` + strings.Repeat(`\"`, label+1) + `"`, 1, api.ErrLimit},
		// The first of several errors.
		{"a\n\n1..2", 3, api.ErrSyntax},
		{"\n1a\n\"", 2, api.ErrSyntax},
		{"\n\"\n1a", 2, api.ErrRange},
		{"# -\nabc # \"\n\n268435.457 -", 4, api.ErrOverflow},
		{"a b c\n d e abcdefghijklmnopq -", 2, api.ErrLimit},
	} {
		if got := tokenize(c.src); !got.equals(failed(c.line, c.err)) || len(got.list) > 0 {
			t.Errorf("Tokenize(%.60q) = %v; want %d, %d", c.src, got, c.line, c.err)
		}
	}
}

// P6.3: a source has at most MaxSource bytes, whatever they are.
func TestTokenizeLimit(t *testing.T) {
	for _, c := range []struct {
		src  string
		want outcome
	}{
		{strings.Repeat(" ", source), outcome{nil, 0, api.OK}},
		{strings.Repeat("\n", source), outcome{nil, 0, api.OK}},
		{"#" + strings.Repeat("\xff", source-1), outcome{nil, 0, api.OK}},
		{strings.Repeat(" ", source-1) + "-", failed(1, api.ErrSyntax)},
		{strings.Repeat(" ", source+1), failed(0, api.ErrLimit)},
		{strings.Repeat("\n", source+1), failed(0, api.ErrLimit)},
		{"-" + strings.Repeat(" ", source), failed(0, api.ErrLimit)},
		{"\"\n" + strings.Repeat("1a ", source), failed(0, api.ErrLimit)},
		{strings.Repeat("a", source+1), failed(0, api.ErrLimit)},
		{strings.Repeat(" ", 1<<16), failed(0, api.ErrLimit)},
		{strings.Repeat(" ", 1<<16+1), failed(0, api.ErrLimit)},
	} {
		if got := tokenize(c.src); !got.equals(c.want) {
			t.Errorf("Tokenize of %d bytes (%.8q..) = %.80v; want %v", len(c.src), c.src, got, c.want)
		}
	}
	if got := tokenize(strings.Repeat(";", source)); len(got.list) != source || got.line != 0 || got.err != api.OK {
		t.Errorf("%d marks: %d tokens, %d, %d", source, len(got.list), got.line, got.err)
	}
}

// P6.3: every byte at the places where it may have another meaning.
func TestTokenizeBytes(t *testing.T) {
	full := strings.Repeat("x", label-1)
	for i := range 256 {
		c := string([]byte{byte(i)})
		for _, src := range []string{c, "a" + c, "a" + c + "b", "1" + c, "1" + c + "1", "-" + c, "-" + c + "1", `"` + c, `"` + c + `"`, `"\` + c, `"\` + c + `"`, `"` + full + c, `"` + full + "x" + c, "#" + c, "#" + c + "\na", "\n" + c, c + "\n-", c + c} {
			if got, want := tokenize(src), wanted(src); !got.equals(want) {
				t.Errorf("Tokenize(%q) = %v; want %v", src, got, want)
			}
		}
	}
}

// P6.3: random sources, of pieces that join to all kinds of tokens and errors.
func TestTokenizeRandom(t *testing.T) {
	pieces := []string{"a", "_", "Z9", "node", "set", "abcdefgh", "1", "0", "2.5", ".", "-", ">", "--", "->", "{", "]", ";", "=", ":", ",", " ", " ", "\t", "\n", "\n", "# x", "#", "\"", "\"", "\"ab\"", "\\", "\\\"", "\"xyz\\\\ \"", "1234567890", "\"1234567890123456", "é", "\xff", "\r"}
	random := rand.New(rand.NewPCG(6, 3))
	errs := map[api.Errno]int{}
	for range 60000 {
		// Few of the pieces at a time, since with all of them most sources
		// would be wrong near their beginning.
		chosen := []string{" "}
		for range 1 + random.IntN(6) {
			chosen = append(chosen, pieces[random.IntN(len(pieces))])
		}
		src := ""
		for range random.IntN(16) {
			src += chosen[random.IntN(len(chosen))]
		}
		got, want := tokenize(src), wanted(src)
		if !got.equals(want) {
			t.Fatalf("Tokenize(%q) = %v; want %v", src, got, want)
		}
		errs[got.err]++
	}
	for _, e := range []api.Errno{api.OK, api.ErrRange, api.ErrSyntax, api.ErrLimit, api.ErrOverflow} {
		if errs[e] < 100 {
			t.Errorf("the result %d was seen only %d times", e, errs[e])
		}
	}
}

// P6.4
func TestJoin(t *testing.T) {
	full := strings.Repeat(`\`, label)
	for _, c := range []struct {
		list []api.Token
		want string
	}{
		{nil, ""},
		{[]api.Token{}, ""},
		{[]api.Token{name("a")}, "a"},
		{[]api.Token{name("a"), mark("->"), name("b")}, "a -> b"},
		{[]api.Token{name("x"), mark("="), number(-1500), mark(";")}, "x = -1.5 ;"},
		{[]api.Token{text(`a"b`), text("")}, `"a\"b" ""`},
		{[]api.Token{text(""), text(" "), name("a")}, `"" " " a`},
		{[]api.Token{keyword("digraph"), name("g"), mark("{"), mark("}")}, "digraph g { }"},
		{[]api.Token{number(0), number(limit), number(-limit), number(-1)}, "0 268435.456 -268435.456 -0.001"},
		{[]api.Token{mark("--"), number(-1000)}, "-- -1"},
		{[]api.Token{text(full)}, quoted(full)},
		{[]api.Token{on(0, name("a")), on(-5, name("b")), on(math.MinInt, mark(";")), on(math.MaxInt, number(1)), on(1<<32, text("c")), on(7, keyword("set"))}, `a b ; 0.001 "c" set`},
	} {
		if got, err := lexer.Join(c.list); got != c.want || err != api.OK {
			t.Errorf("Join(%v) = %q, %d; want %q", c.list, got, err, c.want)
		}
	}
	all := []api.Token{}
	for _, s := range keywords() {
		all = append(all, keyword(s))
	}
	for _, s := range marks() {
		all = append(all, mark(s))
	}
	want := strings.Join(append(keywords(), marks()...), " ")
	if got, err := lexer.Join(all); got != want || err != api.OK {
		t.Errorf("Join of all keywords and marks = %q, %d; want %q", got, err, want)
	}
}

// invalidTokens returns tokens of no valid form.
func invalidTokens() []api.Token {
	list := []api.Token{{}, {Line: 1}, {Kind: 6}, {Kind: 6, Text: "a"}, {Kind: -1, Text: "a"}, {Kind: math.MinInt, Text: "a"}, {Kind: math.MaxInt}, {Kind: 1<<32 + api.TkName, Text: "a"}, {Kind: 0, Text: "a"}}
	for _, n := range []int{1, -1, 1 << 32, math.MinInt, math.MaxInt} {
		list = append(list, api.Token{Kind: api.TkName, Text: "a", N: n}, api.Token{Kind: api.TkKeyword, Text: "set", N: n}, api.Token{Kind: api.TkString, Text: "a", N: n}, api.Token{Kind: api.TkString, N: n}, api.Token{Kind: api.TkMark, Text: ";", N: n})
	}
	for _, s := range []string{"", "set", "node", "1", "1a", "a b", " a", "a ", "a\n", "é", "a-b", "\"a\"", ";", "abcdefghijklmnopq"} {
		list = append(list, name(s))
	}
	for _, s := range []string{"", "a", "Set", "nodes", "nod", "node ", " node", ";", "\"set\""} {
		list = append(list, keyword(s))
	}
	for _, n := range []int{limit + 1, -limit - 1, 1 << 32, -1 << 32, 1<<62 + 1, math.MaxInt, math.MinInt, math.MinInt + 1} {
		list = append(list, number(n))
	}
	for _, s := range []string{"1", "0", " ", "a"} {
		list = append(list, api.Token{Kind: api.TkNumber, Text: s}, api.Token{Kind: api.TkNumber, Text: s, N: 1000})
	}
	for _, s := range []string{"\n", "\t", "a\x1f", "\x7f", "\x80", "é", "\xff", strings.Repeat("x", label+1), strings.Repeat("é", label), strings.Repeat("x", 1<<16)} {
		list = append(list, text(s))
	}
	for _, s := range []string{"", "-", ">", "<-", "->-", "--->", "{}", "{ ", " {", ";;", "a", "set", "1", ".", "\"", "#", "\n", "(", "\x00", "–", "=="} {
		list = append(list, mark(s))
	}
	return list
}

// P6.4: a token that is not valid, alone, first, last, and behind a text that
// is too long.
func TestJoinInvalid(t *testing.T) {
	long := slices.Repeat([]api.Token{text("")}, source)
	for _, x := range invalidTokens() {
		for _, list := range [][]api.Token{{x}, {x, name("a")}, {name("a"), x}, {mark(";"), x, number(1)}, slices.Concat(long, []api.Token{x}), slices.Concat([]api.Token{x}, long)} {
			if got, err := lexer.Join(list); got != "" || err != api.ErrArg {
				t.Errorf("Join of %d tokens with %.80v = %.80q, %d", len(list), x, got, err)
			}
		}
	}
}

// P6.4: texts of almost MaxSource bytes, and more.
func TestJoinLimit(t *testing.T) {
	const sixteen = "abcdefghijklmnop"
	half := slices.Repeat([]api.Token{name("a")}, source/2) // with a space between any two: one byte less than MaxSource
	for _, c := range []struct {
		list []api.Token
		want api.Errno
	}{
		{half, api.OK},
		{slices.Concat([]api.Token{name("ab")}, half[1:]), api.OK},
		{slices.Concat(half[1:], []api.Token{name("ab")}), api.OK},
		{slices.Concat(half[1:], []api.Token{name("abc")}), api.ErrLimit},
		{slices.Concat([]api.Token{name("abc")}, half[1:]), api.ErrLimit},
		{slices.Concat(half, []api.Token{name("a")}), api.ErrLimit},
		{slices.Concat(half, []api.Token{text("")}), api.ErrLimit},
		{slices.Concat(half, half), api.ErrLimit},
		{slices.Repeat([]api.Token{name(sixteen)}, source/17), api.OK},
		{slices.Repeat([]api.Token{name(sixteen)}, source/17+1), api.ErrLimit},
		{slices.Repeat([]api.Token{text(strings.Repeat(`"`, label))}, source/66), api.ErrLimit},
		{slices.Repeat([]api.Token{text(strings.Repeat(`"`, label))}, source/67), api.OK},
		{slices.Repeat([]api.Token{number(-limit)}, 1<<16), api.ErrLimit},
		{slices.Repeat([]api.Token{name("abc")}, 1<<16/4), api.ErrLimit},
		{slices.Repeat([]api.Token{mark(";")}, 1<<17), api.ErrLimit},
	} {
		want := ""
		for i, x := range c.list {
			if i > 0 {
				want += " "
			}
			want += written(x)
			if len(want) > source {
				want = ""
				break
			}
		}
		if (want == "") != (c.want == api.ErrLimit) {
			t.Fatalf("%d tokens %v are no example of %d", len(c.list), c.list[0], c.want)
		}
		if got, err := lexer.Join(c.list); got != want || err != c.want {
			t.Errorf("Join of %d tokens %v = %d bytes, %d; want %d bytes, %d", len(c.list), c.list[0], len(got), err, len(want), c.want)
		}
	}
}

// P6.5: the tokens of a joined text, and those of texts with any blanks and
// comments around and between the tokens.
func TestRoundTrip(t *testing.T) {
	random := rand.New(rand.NewPCG(6, 5))
	blanks := []string{" ", "\t", "\n", "  ", " # x\n", "#\n", "\n\n\t# \"\xff -\n"}
	for range 5000 {
		list := randomTokens(random)
		parts := []string{}
		for _, x := range list {
			parts = append(parts, written(x))
		}
		joined, err := lexer.Join(list)
		if joined != strings.Join(parts, " ") || err != api.OK {
			t.Fatalf("Join(%v) = %q, %d", list, joined, err)
		}
		if got := tokenize(joined); !got.equals(outcome{list, 0, api.OK}) {
			t.Fatalf("Tokenize(%q) = %v; want %v", joined, got, list)
		}
		before, behind := blanks[random.IntN(len(blanks))], blanks[random.IntN(len(blanks))]
		moved := slices.Clone(list)
		for i := range moved {
			moved[i].Line += strings.Count(before, "\n")
		}
		if got := tokenize(before + joined + behind + "# end"); !got.equals(outcome{moved, 0, api.OK}) {
			t.Fatalf("Tokenize(%q) = %v; want %v", before+joined+behind, got, moved)
		}
		src := ""
		for i, s := range parts {
			src += s + blanks[random.IntN(len(blanks))]
			if i+1 < len(moved) {
				moved[i+1].Line = 1 + strings.Count(src, "\n")
			}
		}
		if len(moved) > 0 {
			moved[0].Line = 1
		}
		if got := tokenize(src); !got.equals(outcome{moved, 0, api.OK}) {
			t.Fatalf("Tokenize(%q) = %v; want %v", src, got, moved)
		}
	}
}

// P6.5: blanks and comments around a source with an error move its line only.
func TestBlanksAroundErrors(t *testing.T) {
	for _, src := range []string{"-", "a 1a", "\"a", "\"\n\"", "abcdefghijklmnopq", "1\n268435.457", "\"\\a\""} {
		plain := tokenize(src)
		if plain.err == api.OK {
			t.Fatalf("Tokenize(%q) has no error", src)
		}
		if got := tokenize("\n# \"\n\t" + src); !got.equals(failed(plain.line+2, plain.err)) {
			t.Errorf("Tokenize of blanks and %q = %v; without them %v", src, got, plain)
		}
		if got := tokenize(src + "\n# -\n"); !got.equals(plain) {
			t.Errorf("Tokenize of %q and blanks = %v; without them %v", src, got, plain)
		}
	}
}

// 0.4, 0.8: Join neither changes its tokens nor uses those behind their end.
func TestJoinKeepsArguments(t *testing.T) {
	whole := []api.Token{on(4, name("a")), on(5, number(7)), on(6, text(`"`)), {Kind: 9, Text: "x"}, name("b")}
	before := slices.Clone(whole)
	for range 2 {
		if got, err := lexer.Join(whole[:3]); got != `a 0.007 "\""` || err != api.OK {
			t.Errorf("Join = %q, %d", got, err)
		}
	}
	if !slices.Equal(whole, before) {
		t.Errorf("Join changed its argument to %v", whole)
	}
}

// 0.4, 0.9: each call returns new memory, and equal results.
func TestTokenizeNewMemory(t *testing.T) {
	const src = "a -> b [x = 1, label = \"c\"]; # end"
	first := tokenize(src)
	want := slices.Clone(first.list)
	clear(first.list[:cap(first.list)])
	if got := tokenize(src); !got.equals(outcome{want, 0, api.OK}) {
		t.Errorf("the second call returns %v; the first one %v", got, want)
	}
}
