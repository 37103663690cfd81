package attrs_test

import (
	"math"
	"math/big"
	"math/rand/v2"
	"regexp"
	"slices"
	"strings"
	"testing"

	"layout/api"
	"layout/attrs"
	"layout/fixed"
)

const (
	most  = api.MaxAttrs
	label = api.MaxLabel
	ports = api.MaxPorts
)

// attr returns an attribute.
func attr(key, val string) api.Attr {
	return api.Attr{Key: key, Val: val}
}

// list returns attributes, each with what it says before and behind the first
// equals sign.
func list(texts ...string) []api.Attr {
	l := []api.Attr{}
	for _, text := range texts {
		key, val, _ := strings.Cut(text, "=")
		l = append(l, attr(key, val))
	}
	return l
}

// row is a row of the chapter's table, for one key. The limits and the default
// of a number are as the chapter writes them.
type row struct {
	kind         int
	key, form    string
	least, limit string
	usual        string
}

// table returns the chapter's table.
func table() []row {
	return []row{
		{api.SNode, "label", "text", "", "", ""},
		{api.SNode, "width", "number", "0.001", "1048.576", "20"},
		{api.SNode, "height", "number", "0.001", "1048.576", "10"},
		{api.SNode, "ports", "ports", "", "", ""},
		{api.SEdge, "label", "text", "", "", ""},
		{api.SEdge, "weight", "whole", "1", "1000", "1"},
		{api.SEdge, "len", "whole", "1", "64", "1"},
		{api.SSet, "mode", "mode", "", "", ""},
		{api.SSet, "nodesep", "number", "0", "1048.576", "10"},
		{api.SSet, "ranksep", "number", "0", "1048.576", "20"},
		{api.SSet, "margin", "number", "0", "1048.576", "5"},
		{api.SSet, "rounds", "whole", "0", "100", "8"},
	}
}

// rowOf returns the row of the key of the kind, and whether there is one.
func rowOf(kind int, key string) (row, bool) {
	for _, r := range table() {
		if r.kind == kind && r.key == key {
			return r, true
		}
	}
	return row{}, false
}

// kinds returns the kinds of statements and numbers that are none of them. Some
// of these look like a kind if they are cut off.
func kinds() []int {
	return []int{api.SNode, api.SEdge, api.SSet, api.SDefault, api.SCluster, 0, 6, 7, -1, -2, -4, 1<<8 + 1, 1<<16 + 2, 1<<32 + 1, 1<<32 + 4, math.MaxInt, math.MinInt, math.MinInt + 1, math.MinInt + 4}
}

func isKind(kind int) bool {
	return kind == api.SNode || kind == api.SEdge || kind == api.SSet
}

// keys returns all keys of the table, and texts that are almost ones.
func keys() []string {
	all := []string{"", " ", "color", "Width", "WIDTH", "width ", " width", "widt", "widths", "w", "lab", "labels", "Label", "port", "modes", "sep", "node_sep", "node", "edge", "set", "x y", "é", "\x00", "\xff", "width\x00", strings.Repeat("width", 1000)}
	for _, r := range table() {
		all = append(all, r.key)
	}
	return all
}

// The forms of texts, numbers, modes and ports.
var (
	textForm   = regexp.MustCompile(`^[ -~]*$`)
	numberForm = regexp.MustCompile(`^-?(?:0|[1-9][0-9]*)(?:\.[0-9]{0,2}[1-9])?$`)
	wholeForm  = regexp.MustCompile(`^-?[0-9]+$`)
	modeForm   = regexp.MustCompile(`^(?:layered|orthogonal|straight|tidy|radial)$`)
	portForm   = regexp.MustCompile(`^([^ ]*) (top|right|bottom|left)$`)
	nameForm   = regexp.MustCompile(`^[a-zA-Z_][a-zA-Z0-9_]{0,15}$`)
	keyword    = regexp.MustCompile(`^(?:digraph|graph|node|edge|set|cluster)$`)
)

// rational returns the number that s denotes.
func rational(s string) *big.Rat {
	r, ok := new(big.Rat).SetString(s)
	if !ok {
		panic("no number: " + s)
	}
	return r
}

// counted returns the number that s denotes in the units in which Number counts
// for r.
func counted(r row, s string) int {
	n := rational(s)
	if r.form == "number" {
		n.Mul(n, big.NewRat(1000, 1))
	}
	if !n.IsInt() {
		panic("too many digits: " + s)
	}
	return int(n.Num().Int64())
}

// hasNumbers reports whether the values of the key are numbers.
func (r row) hasNumbers() bool {
	return r.form == "number" || r.form == "whole"
}

// has reports whether val is one of the values of the key.
func (r row) has(val string) bool {
	switch r.form {
	case "text":
		return len(val) <= label && textForm.MatchString(val)
	case "mode":
		return modeForm.MatchString(val)
	case "ports":
		_, err := wantedPorts(val)
		return len(val) <= label && textForm.MatchString(val) && err == api.OK
	}
	// No number of more bytes is in the range of any key.
	if len(val) > 20 || !numberForm.MatchString(val) || val == "-0" || r.form == "whole" && !wholeForm.MatchString(val) {
		return false
	}
	n := rational(val)
	return n.Cmp(rational(r.least)) >= 0 && n.Cmp(rational(r.limit)) <= 0
}

// wantedPorts returns what the chapter says of Ports.
func wantedPorts(val string) ([]api.Port, api.Errno) {
	if val == "" {
		return nil, api.OK
	}
	sides := map[string]int{"top": 0, "right": 1, "bottom": 2, "left": 3}
	found := []api.Port{}
	for _, part := range strings.Split(val, ", ") {
		m := portForm.FindStringSubmatch(part)
		if m == nil {
			return nil, api.ErrSyntax
		}
		if !nameForm.MatchString(m[1]) || keyword.MatchString(m[1]) {
			return nil, api.ErrName
		}
		for _, p := range found {
			if p.Name == m[1] {
				return nil, api.ErrDup
			}
		}
		if len(found) == 8 {
			return nil, api.ErrLimit
		}
		found = append(found, api.Port{Name: m[1], Side: sides[m[2]]})
	}
	return found, api.OK
}

// wantedError returns what the chapter says of Check.
func wantedError(kind int, a api.Attr) api.Errno {
	if !isKind(kind) {
		return api.ErrArg
	}
	r, ok := rowOf(kind, a.Key)
	switch {
	case !ok:
		return api.ErrName
	case a.Key == "label" && len(a.Val) > 32:
		return api.ErrLimit
	case !r.has(a.Val):
		return api.ErrValue
	}
	return api.OK
}

// wantedErrors returns what the chapter says of CheckAll.
func wantedErrors(kind int, l []api.Attr) api.Errno {
	if !isKind(kind) {
		return api.ErrArg
	}
	if len(l) > 16 {
		return api.ErrLimit
	}
	earlier := map[string]bool{}
	for _, a := range l {
		if err := wantedError(kind, a); err != api.OK {
			return err
		}
		if earlier[a.Key] {
			return api.ErrDup
		}
		earlier[a.Key] = true
	}
	return api.OK
}

// wantedValue returns what the chapter says of Get.
func wantedValue(l []api.Attr, key string) (string, bool) {
	val, ok := "", false
	for _, a := range l {
		if a.Key == key {
			val, ok = a.Val, true
		}
	}
	return val, ok
}

// wantedNumber returns what the chapter says of Number.
func wantedNumber(kind int, l []api.Attr, key string) int {
	r, ok := rowOf(kind, key)
	if !ok || !r.hasNumbers() {
		return 0
	}
	val, ok := wantedValue(l, key)
	if !ok || !r.has(val) {
		return counted(r, r.usual)
	}
	return counted(r, val)
}

// comesBefore reports whether a comes before b, byte by byte.
func comesBefore(a, b string) bool {
	for i := range len(a) {
		switch {
		case i == len(b) || a[i] > b[i]:
			return false
		case a[i] < b[i]:
			return true
		}
	}
	return len(a) < len(b)
}

// checkMerge checks what the chapter says of Merge.
func checkMerge(t *testing.T, base, own []api.Attr) {
	t.Helper()
	got := attrs.Merge(base, own)
	for i, a := range got {
		if i > 0 && !comesBefore(got[i-1].Key, a.Key) {
			t.Fatalf("Merge(%q, %q) = %q, not ascending", base, own, got)
		}
		want, ok := wantedValue(own, a.Key)
		if !ok {
			want, ok = wantedValue(base, a.Key)
		}
		if !ok || a.Val != want {
			t.Fatalf("Merge(%q, %q) = %q, want the value %q of %q", base, own, got, want, a.Key)
		}
	}
	for _, a := range slices.Concat(base, own) {
		if _, ok := wantedValue(got, a.Key); !ok {
			t.Fatalf("Merge(%q, %q) = %q without %q", base, own, got, a.Key)
		}
	}
}

// samples returns values of all forms, and texts that are almost ones.
func samples() []string {
	l := []string{
		"", " ", "x", "x y", `"`, `\`, "a b, c", "~", "\x1f", "\x7f", "\x80", "\xff", "é", "\n", "\t", "\x00", "a\x00", "[]", "null", "true",
		"0", "1", "2", "8", "63", "64", "65", "99", "100", "101", "999", "1000", "1001", "1048", "1049", "20000", "268435", "268436", "1048576", "18446744073709551617", "4294967297",
		"0.001", "0.999", "0.5", "1.001", "2.5", "12.5", "64.001", "99.999", "100.001", "999.999", "1000.001", "1048.575", "1048.576", "1048.577", "1048.58", "1048.6", "268435.456", "268435.457",
		"-0", "-0.001", "-1", "-1000", "-1048.576", "-268435.456", "--1", "+1", "- 1", "-", "+",
		"1.", ".5", "1.0", "1.50", "2.500", "1.0001", "0.0005", "0.000", "0.0", "00", "01", "007", "00.5", "1..5", "1.5.5", ".", "1,5", "1 ", " 1", "1\n", "1e3", "1E3", "0x1", "1_0", "1m", "½", "١", "inf", "NaN", "1.-5",
		"layered", "orthogonal", "straight", "tidy", "radial", "Layered", "TIDY", "tidy ", " tidy", "tid", "tidyy", "ortho", "layered, tidy", "mode", "3", "tidy\n",
		"a top", "a right", "a bottom", "a left", "in top, out bottom", "a top, b top, c top, d top", "a top, b top, c top, dd left", "a top, b top, c top, dd right", "a up", "a", "a Top", "a  top", " top", "top", "a top,", "a top, ", ", a top", "a top,b top", "a top,  b top", "a top; b top", "a top, a left", "node top", "1 top", "a top, b up", "set left", "abcdefghijklmnop top", "abcdefghijklmnopq top",
	}
	for _, n := range []int{label - 1, label, label + 1, label + 2, 255, 256, 256 + label, 1 << 16} {
		l = append(l, strings.Repeat("x", n), strings.Repeat(" ", n), strings.Repeat("\n", n), strings.Repeat("0", n), strings.Repeat("é", n), strings.Repeat(`"`, n), "1"+strings.Repeat("0", n), "0."+strings.Repeat("1", n), "a top"+strings.Repeat(", b top", n/7))
	}
	return l
}

// P10.1: the chapter's examples, and each rule with what just keeps and what
// just breaks it.
func TestCheck(t *testing.T) {
	for _, c := range []struct {
		kind     int
		key, val string
		want     api.Errno
	}{
		{api.SNode, "width", "12.5", api.OK}, {api.SNode, "width", "0", api.ErrValue}, {api.SNode, "width", "1.50", api.ErrValue}, {api.SNode, "color", "red", api.ErrName}, {api.SDefault, "width", "12.5", api.ErrArg},
		{api.SNode, "width", "0.001", api.OK}, {api.SNode, "width", "1048.576", api.OK}, {api.SNode, "width", "1048.577", api.ErrValue}, {api.SNode, "width", "-1", api.ErrValue}, {api.SNode, "width", "", api.ErrValue}, {api.SNode, "width", "x", api.ErrValue}, {api.SNode, "width", "268435.457", api.ErrValue},
		{api.SNode, "height", "0.001", api.OK}, {api.SNode, "height", "0", api.ErrValue}, {api.SNode, "height", "1048.576", api.OK}, {api.SNode, "height", "1048.577", api.ErrValue}, {api.SNode, "height", "-0.001", api.ErrValue},
		{api.SNode, "label", "", api.OK}, {api.SNode, "label", "x y", api.OK}, {api.SNode, "label", strings.Repeat("~", label), api.OK}, {api.SNode, "label", strings.Repeat("~", label+1), api.ErrLimit}, {api.SNode, "label", strings.Repeat("\n", label+1), api.ErrLimit}, {api.SNode, "label", strings.Repeat("\n", label), api.ErrValue}, {api.SNode, "label", "\x1f", api.ErrValue}, {api.SNode, "label", "\x7f", api.ErrValue}, {api.SNode, "label", "é", api.ErrValue}, {api.SNode, "label", strings.Repeat("é", label/2), api.ErrValue}, {api.SNode, "label", strings.Repeat("é", label/2+1), api.ErrLimit},
		{api.SNode, "ports", "", api.OK}, {api.SNode, "ports", "in top, out bottom", api.OK}, {api.SNode, "ports", "a up", api.ErrValue}, {api.SNode, "ports", "node top", api.ErrValue}, {api.SNode, "ports", "a top, a left", api.ErrValue},
		{api.SNode, "weight", "1", api.ErrName}, {api.SNode, "len", "1", api.ErrName}, {api.SNode, "mode", "tidy", api.ErrName}, {api.SNode, "", "", api.ErrName}, {api.SNode, "Width", "1", api.ErrName},
		{api.SEdge, "label", strings.Repeat("x", label), api.OK}, {api.SEdge, "label", strings.Repeat("x", label+1), api.ErrLimit}, {api.SEdge, "label", "\t", api.ErrValue},
		{api.SEdge, "weight", "1", api.OK}, {api.SEdge, "weight", "1000", api.OK}, {api.SEdge, "weight", "0", api.ErrValue}, {api.SEdge, "weight", "1001", api.ErrValue}, {api.SEdge, "weight", "2.5", api.ErrValue}, {api.SEdge, "weight", "0.001", api.ErrValue}, {api.SEdge, "weight", "999.999", api.ErrValue}, {api.SEdge, "weight", "1.0", api.ErrValue}, {api.SEdge, "weight", "-1", api.ErrValue},
		{api.SEdge, "len", "1", api.OK}, {api.SEdge, "len", "64", api.OK}, {api.SEdge, "len", "0", api.ErrValue}, {api.SEdge, "len", "65", api.ErrValue}, {api.SEdge, "len", "63.5", api.ErrValue},
		{api.SEdge, "width", "1", api.ErrName}, {api.SEdge, "ports", "", api.ErrName}, {api.SEdge, "rounds", "1", api.ErrName},
		{api.SSet, "mode", "layered", api.OK}, {api.SSet, "mode", "orthogonal", api.OK}, {api.SSet, "mode", "straight", api.OK}, {api.SSet, "mode", "tidy", api.OK}, {api.SSet, "mode", "radial", api.OK}, {api.SSet, "mode", "Tidy", api.ErrValue}, {api.SSet, "mode", "", api.ErrValue}, {api.SSet, "mode", "0", api.ErrValue}, {api.SSet, "mode", strings.Repeat("x", label+1), api.ErrValue},
		{api.SSet, "nodesep", "0", api.OK}, {api.SSet, "nodesep", "1048.576", api.OK}, {api.SSet, "nodesep", "1048.577", api.ErrValue}, {api.SSet, "nodesep", "-0", api.ErrValue}, {api.SSet, "nodesep", "-0.001", api.ErrValue},
		{api.SSet, "ranksep", "0", api.OK}, {api.SSet, "ranksep", "1048.576", api.OK}, {api.SSet, "ranksep", "1048.577", api.ErrValue}, {api.SSet, "ranksep", "-1", api.ErrValue},
		{api.SSet, "margin", "0", api.OK}, {api.SSet, "margin", "1048.576", api.OK}, {api.SSet, "margin", "1048.577", api.ErrValue}, {api.SSet, "margin", "-1", api.ErrValue},
		{api.SSet, "rounds", "0", api.OK}, {api.SSet, "rounds", "100", api.OK}, {api.SSet, "rounds", "101", api.ErrValue}, {api.SSet, "rounds", "0.5", api.ErrValue}, {api.SSet, "rounds", "-1", api.ErrValue},
		{api.SSet, "label", "", api.ErrName}, {api.SSet, "label", strings.Repeat("x", label+1), api.ErrName}, {api.SSet, "width", "1", api.ErrName}, {api.SSet, "Mode", "tidy", api.ErrName},
		{api.SCluster, "label", "", api.ErrArg}, {0, "label", "", api.ErrArg}, {-1, "color", "", api.ErrArg}, {6, "width", "x", api.ErrArg}, {api.SDefault, "label", strings.Repeat("x", label+1), api.ErrArg},
	} {
		if got := attrs.Check(c.kind, attr(c.key, c.val)); got != c.want {
			t.Errorf("Check(%d, %q = %q) = %d, want %d", c.kind, c.key, c.val, got, c.want)
		}
	}
}

// P10.1: ports as values are texts, which have a limit of their own.
func TestCheckLongPorts(t *testing.T) {
	for val, want := range map[string]api.Errno{
		"a top, b top, c top, dd left":                             api.OK,
		"a top, b top, c top, dddddd left":                         api.OK,
		"a top, b top, c top, ddddddd left":                        api.ErrValue,
		"a top, b top, c top, d top, e top":                        api.ErrValue,
		"a top, b top, c top, d top, e top, f top, g top, h left":  api.ErrValue,
		"a top, b top, c top, d top, e top, f top, g top, h left,": api.ErrValue,
	} {
		if got := attrs.Check(api.SNode, attr("ports", val)); got != want {
			t.Errorf("%d bytes, %q: %d, want %d", len(val), val, got, want)
		}
	}
}

// P10.1: all kinds, keys and values.
func TestCheckAllKinds(t *testing.T) {
	count := map[api.Errno]int{}
	for _, kind := range kinds() {
		for _, key := range keys() {
			for _, val := range samples() {
				want := wantedError(kind, attr(key, val))
				count[want]++
				if got := attrs.Check(kind, attr(key, val)); got != want {
					t.Errorf("Check(%d, %.40q = %.40q) = %d, want %d", kind, key, val, got, want)
				}
			}
		}
	}
	for _, err := range []api.Errno{api.OK, api.ErrArg, api.ErrName, api.ErrLimit, api.ErrValue} {
		if count[err] == 0 {
			t.Errorf("no attribute leads to %d", err)
		}
	}
}

// thousandths returns numbers that are close to the limits of the values of
// some key, and many between them.
func thousandths() []int {
	l := []int{-api.MaxCoord, -api.MaxSize, -1000, api.MaxCoord - 1, api.MaxCoord, api.MaxCoord + 1, 1 << 40, math.MaxInt, math.MinInt}
	for n := -1100; n <= 3100; n++ {
		l = append(l, n)
	}
	for n := 0; n <= 1100; n++ {
		l = append(l, 1000*n-1, 1000*n, 1000*n+1)
	}
	for n := -1100; n <= 1100; n++ {
		l = append(l, api.MaxSize+n)
	}
	return l
}

// P10.1, P10.4: numbers at the limits of each key and around them.
func TestNumbers(t *testing.T) {
	for _, r := range table() {
		if !r.hasNumbers() {
			continue
		}
		for _, n := range thousandths() {
			a := attr(r.key, fixed.Format(n))
			if got, want := attrs.Check(r.kind, a), wantedError(r.kind, a); got != want {
				t.Errorf("Check(%d, %q) = %d, want %d", r.kind, a, got, want)
			}
			if got, want := attrs.Number(r.kind, []api.Attr{a}, r.key), wantedNumber(r.kind, []api.Attr{a}, r.key); got != want {
				t.Errorf("Number(%d, %q) = %d, want %d", r.kind, a, got, want)
			}
		}
	}
}

// P10.1, P10.4, P10.5: values in which one byte is left out, put in or replaced
// by any other.
func TestEveryByte(t *testing.T) {
	for form, vals := range map[string][]string{
		"text":   {"", "x y", strings.Repeat("x", label-1), strings.Repeat("x", label)},
		"number": {"0", "7", "12.5", "0.001", "1048.576", "10.05"},
		"whole":  {"0", "1", "64", "100", "1000", "12"},
		"mode":   {"layered", "orthogonal", "straight", "tidy", "radial"},
		"ports":  {"", "a top", "in left, out right", "a bottom, b top, c right, d left", "abcdefghijklmnop bottom, b left"},
	} {
		for _, r := range table() {
			if r.form != form {
				continue
			}
			for _, val := range vals {
				checkChanges(t, r, val)
			}
		}
	}
}

// checkChanges checks all values that differ from val in one byte.
func checkChanges(t *testing.T, r row, val string) {
	t.Helper()
	for i := range len(val) + 1 {
		before, behind := val[:i], val[i:]
		for c := range 256 {
			checkValue(t, r, before+string([]byte{byte(c)})+behind)
			if behind != "" {
				checkValue(t, r, before+string([]byte{byte(c)})+behind[1:])
			}
		}
		if behind != "" {
			checkValue(t, r, before+behind[1:])
		}
	}
}

// checkValue checks all that the chapter says of val as a value of the key.
func checkValue(t *testing.T, r row, val string) {
	t.Helper()
	a := attr(r.key, val)
	if got, want := attrs.Check(r.kind, a), wantedError(r.kind, a); got != want {
		t.Errorf("Check(%d, %q) = %d, want %d", r.kind, a, got, want)
	}
	if got, want := attrs.Number(r.kind, []api.Attr{a}, r.key), wantedNumber(r.kind, []api.Attr{a}, r.key); got != want {
		t.Errorf("Number(%d, %q) = %d, want %d", r.kind, a, got, want)
	}
	if r.form == "ports" {
		checkPorts(t, val)
	}
}

// P10.2: the errors, in their order.
func TestCheckAll(t *testing.T) {
	labels := func(n int) []api.Attr { return slices.Repeat(list("label=x"), n) }
	for _, c := range []struct {
		kind int
		l    []api.Attr
		want api.Errno
	}{
		{api.SNode, nil, api.OK}, {api.SEdge, []api.Attr{}, api.OK}, {api.SSet, nil, api.OK},
		{api.SNode, list("label=x", "width=1", "height=2", "ports=a top"), api.OK}, {api.SNode, list("ports=", "height=2", "width=1", "label="), api.OK}, {api.SEdge, list("label=x", "weight=2", "len=3"), api.OK}, {api.SSet, list("mode=tidy", "nodesep=0", "ranksep=1", "margin=0.5", "rounds=0"), api.OK},
		{api.SDefault, nil, api.ErrArg}, {api.SCluster, nil, api.ErrArg}, {0, nil, api.ErrArg}, {-1, nil, api.ErrArg}, {api.SDefault, labels(most + 1), api.ErrArg}, {0, list("width=x"), api.ErrArg}, {6, list("label=x", "label=x"), api.ErrArg}, // the kind counts first
		{api.SNode, labels(most), api.ErrDup}, {api.SNode, labels(most + 1), api.ErrLimit}, {api.SNode, labels(1000), api.ErrLimit}, {api.SNode, append(list("color=red"), labels(most)...), api.ErrLimit}, {api.SNode, append(list("width=x"), labels(most-1)...), api.ErrValue}, // then the number of the attributes
		{api.SNode, list("color=red"), api.ErrName}, {api.SNode, list("width=1", "len=1"), api.ErrName}, {api.SNode, list("label=x", "height=0"), api.ErrValue}, {api.SNode, list("width=1", "label="+strings.Repeat("x", label+1)), api.ErrLimit}, {api.SNode, list("ports=a up", "width=1"), api.ErrValue},
		{api.SNode, list("width=1", "width=1"), api.ErrDup}, {api.SNode, list("width=1", "height=1", "width=2"), api.ErrDup}, {api.SEdge, list("len=1", "weight=1", "weight=1"), api.ErrDup}, {api.SSet, list("mode=tidy", "mode=radial"), api.ErrDup}, {api.SEdge, list("label=", "label="), api.ErrDup},
		{api.SNode, list("width=1", "width=x"), api.ErrValue}, {api.SNode, list("width=x", "width=1"), api.ErrValue}, {api.SNode, list("color=red", "color=red"), api.ErrName}, {api.SNode, list("label=x", "label="+strings.Repeat("x", label+1)), api.ErrLimit}, // of one attribute, what Check says comes first
		{api.SNode, list("width=1", "width=1", "height=x"), api.ErrDup}, {api.SNode, list("width=1", "height=x", "width=1"), api.ErrValue}, {api.SNode, list("width=1", "color=red", "width=x"), api.ErrName}, {api.SEdge, list("len=1", "len=2", "color=red"), api.ErrDup}, // of several, the first one counts
		{api.SEdge, list("label=x", "Label=x"), api.ErrName}, {api.SEdge, list("label=x", "width=1"), api.ErrName}, {api.SSet, list("label=x"), api.ErrName},
	} {
		if got := attrs.CheckAll(c.kind, c.l); got != c.want {
			t.Errorf("CheckAll(%d, %.200q) = %d, want %d", c.kind, c.l, got, c.want)
		}
	}
}

// pick returns one of the elements of l.
func pick[T any](r *rand.Rand, l []T) T {
	return l[r.IntN(len(l))]
}

// maker makes random lists. It keeps what it picks from.
type maker struct {
	*rand.Rand
	keys, vals []string
	rows       []row
	good       map[string][]string // values that are mostly accepted, by form
}

func newMaker(seed uint64) maker {
	good := map[string][]string{
		"text":   {"", "x", "x y"},
		"number": {"1", "0.5", "1048.576", "20"},
		"whole":  {"1", "2", "64"},
		"mode":   {"tidy", "layered"},
		"ports":  {"", "a top", "in top, out bottom"},
	}
	return maker{rand.New(rand.NewPCG(10, seed)), keys(), samples(), table(), good}
}

// list returns up to n attributes, mostly with keys of the kind and with values
// that they have.
func (m maker) list(kind, n int) []api.Attr {
	l := []api.Attr{}
	for range m.IntN(n + 1) {
		r := pick(m.Rand, m.rows)
		for r.kind != kind && isKind(kind) {
			r = pick(m.Rand, m.rows)
		}
		a := attr(r.key, pick(m.Rand, m.good[r.form]))
		if m.IntN(16) == 0 {
			a.Key = pick(m.Rand, m.keys)
		}
		if m.IntN(8) == 0 {
			a.Val = pick(m.Rand, m.vals)
		}
		l = append(l, a)
	}
	return l
}

// anyList returns up to n attributes with keys of any bytes, which have at most
// the given length.
func (m maker) anyList(n, length int) []api.Attr {
	l := []api.Attr{}
	for range m.IntN(n + 1) {
		key := make([]byte, m.IntN(length+1))
		for i := range key {
			key[i] = pick(m.Rand, []byte{0, ' ', 'A', 'a', 'b', '_', 0x7f, 0x80, 0xc3, 0xff})
		}
		l = append(l, attr(string(key), pick(m.Rand, m.vals)))
	}
	return l
}

// P10.2, P10.4: random lists of all lengths.
func TestRandomLists(t *testing.T) {
	m := newMaker(2)
	count := map[api.Errno]int{}
	for i := range 20000 {
		kind := pick(m.Rand, kinds())
		if i%4 > 0 {
			kind = []int{0, api.SNode, api.SEdge, api.SSet}[i%4]
		}
		l := m.list(kind, pick(m.Rand, []int{2, 4, 5, most, most + 3}))
		want := wantedErrors(kind, l)
		count[want]++
		if got := attrs.CheckAll(kind, l); got != want {
			t.Errorf("CheckAll(%d, %.300q) = %d, want %d", kind, l, got, want)
		}
		for _, key := range m.keys {
			if got, want := attrs.Number(kind, l, key), wantedNumber(kind, l, key); got != want {
				t.Errorf("Number(%d, %.300q, %q) = %d, want %d", kind, l, key, got, want)
			}
			val, ok := attrs.Get(l, key)
			if want, is := wantedValue(l, key); val != want || ok != is {
				t.Errorf("Get(%.300q, %q) = %q, %v, want %q, %v", l, key, val, ok, want, is)
			}
		}
	}
	for _, err := range []api.Errno{api.OK, api.ErrArg, api.ErrLimit, api.ErrName, api.ErrValue, api.ErrDup} {
		if count[err] < 50 {
			t.Errorf("only %d lists lead to %d", count[err], err)
		}
	}
}

// P10.3
func TestGet(t *testing.T) {
	l := list("b=1", "a=2", "ab=5", "b=7", "=9", "c=")
	for _, c := range []struct {
		l        []api.Attr
		key, val string
		ok       bool
	}{
		{l, "b", "7", true}, {l, "a", "2", true}, {l, "ab", "5", true}, {l, "", "9", true}, {l, "c", "", true},
		{l, "d", "", false}, {l, "B", "", false}, {l, "abc", "", false}, {l, " b", "", false}, {l[:2], "ab", "", false}, {l[:3], "b", "1", true}, {l[:4], "", "", false},
		{nil, "b", "", false}, {nil, "", "", false}, {[]api.Attr{}, "width", "", false},
		{list("width=3", "width=x"), "width", "x", true}, {list("x=1", "x="), "x", "", true},
	} {
		if val, ok := attrs.Get(c.l, c.key); val != c.val || ok != c.ok {
			t.Errorf("Get(%q, %q) = %q, %v, want %q, %v", c.l, c.key, val, ok, c.val, c.ok)
		}
	}
}

// P10.3
func TestMerge(t *testing.T) {
	for _, c := range []struct{ base, own, want []api.Attr }{
		{nil, nil, nil}, {[]api.Attr{}, nil, nil},
		{list("a=1"), nil, list("a=1")}, {nil, list("a=1"), list("a=1")},
		{list("a=1"), list("a=2"), list("a=2")}, {list("a=1"), list("a="), list("a=")}, {list("a="), list("a=1"), list("a=1")},
		{list("a=1", "a=2"), nil, list("a=2")}, {nil, list("a=1", "a=2"), list("a=2")}, {list("a=5"), list("a=1", "a=2"), list("a=2")}, {list("a=1", "a=2"), list("a=3"), list("a=3")}, // the last one counts
		{list("b=1"), list("a=2"), list("a=2", "b=1")}, {list("a=1"), list("b=2"), list("a=1", "b=2")}, {list("c=1", "b=2", "a=3"), list("b=4", "d=5"), list("a=3", "b=4", "c=1", "d=5")},
		{list("ab=1", "a=2", "abc=3", "=4", "b=5", "aa=6"), nil, list("=4", "a=2", "aa=6", "ab=1", "abc=3", "b=5")}, // a text before its continuations
		{list("a=1", "B=2", "_=3", "1=4", " =5", "Z=6", "10=7", "9=8"), nil, list(" =5", "1=4", "10=7", "9=8", "B=2", "Z=6", "_=3", "a=1")},
		{list("é=1", "z=2", "\xff=3", "\x00=4", "a\x00=5", "a=6", "a =7", "\xc3=8", "\u20ac=9", "\x80=0"), nil, list("\x00=4", "a=6", "a\x00=5", "a =7", "z=2", "\x80=0", "\xc3=8", "é=1", "\u20ac=9", "\xff=3")}, // bytes, not runes
		{list("width=x", "color=red"), list("width=-0"), list("color=red", "width=-0")},
	} {
		if got := attrs.Merge(c.base, c.own); !slices.Equal(got, c.want) {
			t.Errorf("Merge(%q, %q) = %q, want %q", c.base, c.own, got, c.want)
		}
		checkMerge(t, c.base, c.own)
	}
}

// shortLists returns all lists of up to n attributes with few keys and values.
func shortLists(n int) [][]api.Attr {
	lists := [][]api.Attr{nil}
	for i := 0; n > 0; n-- {
		for end := len(lists); i < end; i++ {
			for _, a := range list("a=1", "a=2", "ab=1", "=2", "B=3") {
				lists = append(lists, append(slices.Clone(lists[i]), a))
			}
		}
	}
	return lists
}

// P10.3, P10.6: all short lists.
func TestMergeShortLists(t *testing.T) {
	lists := shortLists(3)
	for _, a := range lists {
		for _, b := range lists {
			checkMerge(t, a, b)
			checkConsequences(t, a, b, lists[(len(a)+3*len(b))%31])
		}
	}
}

// P10.3, P10.6: random lists, with up to hundreds of keys of any bytes.
func TestMergeRandomLists(t *testing.T) {
	m := newMaker(3)
	random := func() []api.Attr {
		return m.anyList(pick(m.Rand, []int{0, 1, 5, 20, 200}), m.IntN(6))
	}
	for range 2000 {
		a, b := random(), random()
		checkMerge(t, a, b)
		checkConsequences(t, a, b, random())
	}
}

// checkConsequences checks the consequences for three lists.
func checkConsequences(t *testing.T, a, b, c []api.Attr) {
	t.Helper()
	if left, right := attrs.Merge(attrs.Merge(a, b), c), attrs.Merge(a, attrs.Merge(b, c)); !slices.Equal(left, right) {
		t.Fatalf("%q, %q, %q merged from the left: %q; from the right: %q", a, b, c, left, right)
	}
	if alone, twice := attrs.Merge(a, nil), attrs.Merge(a, a); !slices.Equal(alone, twice) {
		t.Fatalf("%q merged with nothing: %q; with itself: %q", a, alone, twice)
	}
	merged := attrs.Merge(a, b)
	for _, x := range slices.Concat(a, b, list("none=1")) {
		want, is := attrs.Get(b, x.Key)
		if !is {
			want, is = attrs.Get(a, x.Key)
		}
		if got, ok := attrs.Get(merged, x.Key); got != want || ok != is {
			t.Fatalf("Get(Merge(%q, %q), %q) = %q, %v, want %q, %v", a, b, x.Key, got, ok, want, is)
		}
	}
}

// P10.4
func TestNumber(t *testing.T) {
	for _, c := range []struct {
		kind int
		l    []api.Attr
		key  string
		want int
	}{
		{api.SNode, nil, "width", 20000}, {api.SEdge, list("weight=3"), "weight", 3}, {api.SEdge, list("weight=2.5"), "weight", 1}, // the chapter's examples
		{api.SNode, nil, "height", 10000}, {api.SEdge, nil, "weight", 1}, {api.SEdge, nil, "len", 1}, {api.SSet, nil, "nodesep", 10000}, {api.SSet, nil, "ranksep", 20000}, {api.SSet, nil, "margin", 5000}, {api.SSet, nil, "rounds", 8}, // the defaults
		{api.SNode, list("width=0.001"), "width", 1}, {api.SNode, list("width=1048.576"), "width", 1048576}, {api.SNode, list("width=1048.577"), "width", 20000}, {api.SNode, list("width=0"), "width", 20000}, {api.SNode, list("width=12.5"), "width", 12500}, {api.SNode, list("width=1.50"), "width", 20000},
		{api.SNode, list("height=0.001"), "height", 1}, {api.SNode, list("height=1048.576"), "height", 1048576}, {api.SNode, list("height=1048.577"), "height", 10000}, {api.SNode, list("height=0"), "height", 10000}, {api.SNode, list("height=x"), "height", 10000}, {api.SNode, list("height="), "height", 10000}, {api.SNode, list("height=-3"), "height", 10000},
		{api.SEdge, list("weight=1000"), "weight", 1000}, {api.SEdge, list("weight=1001"), "weight", 1}, {api.SEdge, list("weight=0"), "weight", 1}, {api.SEdge, list("len=64"), "len", 64}, {api.SEdge, list("len=65"), "len", 1}, {api.SEdge, list("len=63.999"), "len", 1},
		{api.SSet, list("nodesep=0"), "nodesep", 0}, {api.SSet, list("nodesep=0.25"), "nodesep", 250}, {api.SSet, list("nodesep=-1"), "nodesep", 10000}, {api.SSet, list("ranksep=0"), "ranksep", 0}, {api.SSet, list("ranksep=1048.576"), "ranksep", 1048576}, {api.SSet, list("ranksep=2000"), "ranksep", 20000}, {api.SSet, list("margin=0"), "margin", 0}, {api.SSet, list("margin=1.5"), "margin", 1500}, {api.SSet, list("margin=-0"), "margin", 5000},
		{api.SSet, list("rounds=0"), "rounds", 0}, {api.SSet, list("rounds=100"), "rounds", 100}, {api.SSet, list("rounds=101"), "rounds", 8}, {api.SSet, list("rounds=0.5"), "rounds", 8},
		{api.SNode, list("width=3", "width=4"), "width", 4000}, {api.SNode, list("width=3", "width=x"), "width", 20000}, {api.SNode, list("width=x", "width=3"), "width", 3000}, {api.SNode, list("height=3"), "width", 20000}, {api.SNode, list("color=red", "width=3", "width2=4"), "width", 3000},
		{api.SNode, slices.Repeat(list("width=3"), 100), "width", 3000},                                                                                                                                                                           // the last one counts, whatever the others are, also in lists that CheckAll does not accept
		{api.SNode, list("label=7"), "label", 0}, {api.SNode, list("ports=7"), "ports", 0}, {api.SEdge, list("label=7"), "label", 0}, {api.SSet, list("mode=tidy"), "mode", 0}, {api.SSet, list("mode=3"), "mode", 0}, {api.SSet, nil, "mode", 0}, // keys without numbers
		{api.SNode, list("color=7"), "color", 0}, {api.SNode, list("weight=7"), "weight", 0}, {api.SNode, list("rounds=7"), "rounds", 0}, {api.SEdge, list("width=7"), "width", 0}, {api.SEdge, nil, "height", 0}, {api.SSet, list("len=7"), "len", 0}, {api.SNode, list("=7"), "", 0}, {api.SNode, list("Width=7"), "Width", 0}, // keys that the kind does not have
		{api.SDefault, list("width=7"), "width", 0}, {api.SCluster, list("width=7"), "width", 0}, {0, nil, "width", 0}, {-1, nil, "rounds", 0}, {6, list("weight=7"), "weight", 0}, // other kinds
	} {
		if got := attrs.Number(c.kind, c.l, c.key); got != c.want {
			t.Errorf("Number(%d, %.100q, %q) = %d, want %d", c.kind, c.l, c.key, got, c.want)
		}
	}
}

// P10.4: all kinds, keys and values.
func TestNumberOfAllKinds(t *testing.T) {
	for _, kind := range kinds() {
		for _, key := range keys() {
			for _, val := range samples() {
				l := []api.Attr{attr("x", "1"), attr(key, val)}
				if got, want := attrs.Number(kind, l, key), wantedNumber(kind, l, key); got != want {
					t.Errorf("Number(%d, %.80q, %.40q) = %d, want %d", kind, l, key, got, want)
				}
			}
		}
	}
}

// P10.7: what Number returns is a value, also where it is the default, and
// Number returns it again.
func TestNumberIsValue(t *testing.T) {
	for _, r := range table() {
		if !r.hasNumbers() {
			continue
		}
		vals := slices.Concat(samples(), []string{r.least, r.limit, r.usual})
		for _, n := range thousandths() {
			vals = append(vals, fixed.Format(n))
		}
		for i, val := range vals {
			l := []api.Attr{attr(r.key, val)}
			if i == 0 {
				l = nil
			}
			n := attrs.Number(r.kind, l, r.key)
			unit := 1
			if r.form == "whole" {
				unit = 1000
			}
			text := fixed.Format(n * unit)
			if err := attrs.Check(r.kind, attr(r.key, text)); err != api.OK {
				t.Errorf("%q has the number %d, but %s leads to %d", l, n, text, err)
			}
			if again := attrs.Number(r.kind, []api.Attr{attr(r.key, text)}, r.key); again != n {
				t.Errorf("%q has the number %d, but %s has %d", l, n, text, again)
			}
		}
	}
}

// checkPorts checks what the chapter says of Ports.
func checkPorts(t *testing.T, val string) {
	t.Helper()
	got, err := attrs.Ports(val)
	if want, wanted := wantedPorts(val); !slices.Equal(got, want) || err != wanted {
		t.Errorf("Ports(%.200q) = %v, %d, want %v, %d", val, got, err, want, wanted)
	}
}

// P10.5: lists of ports.
func TestPorts(t *testing.T) {
	port := func(name string, side int) api.Port { return api.Port{Name: name, Side: side} }
	for val, want := range map[string][]api.Port{
		"":                                {},
		"in top, out bottom":              {port("in", api.Top), port("out", api.Bottom)},
		"a top":                           {port("a", 0)},
		"a right":                         {port("a", 1)},
		"a bottom":                        {port("a", 2)},
		"a left":                          {port("a", 3)},
		"b left, a left":                  {port("b", 3), port("a", 3)},
		"a top, A top, aa top, _ top":     {port("a", 0), port("A", 0), port("aa", 0), port("_", 0)},
		"top top, left right":             {port("top", 0), port("left", 1)},
		"x_1 left, nodes left, Node left": {port("x_1", 3), port("nodes", 3), port("Node", 3)},
		"abcdefghijklmnop right":          {port("abcdefghijklmnop", 1)},
		"a top, b right, c bottom, d left, e top, f right, g bottom, h left": {port("a", 0), port("b", 1), port("c", 2), port("d", 3), port("e", 0), port("f", 1), port("g", 2), port("h", 3)},
	} {
		if got, err := attrs.Ports(val); !slices.Equal(got, want) || err != api.OK {
			t.Errorf("Ports(%q) = %v, %d, want %v", val, got, err, want)
		}
		checkPorts(t, val)
	}
}

// P10.5: the errors of a part, in their order, and of several parts.
func TestPortsErrors(t *testing.T) {
	const eight = "a top, b top, c top, d top, e top, f top, g top, h top"
	for val, want := range map[string]api.Errno{
		"a up": api.ErrSyntax, "a": api.ErrSyntax, " ": api.ErrSyntax, "top": api.ErrSyntax, "a ": api.ErrSyntax, "a  top": api.ErrSyntax, "a top ": api.ErrSyntax, " a top": api.ErrSyntax, "  top": api.ErrSyntax, "a Top": api.ErrSyntax, "a TOP": api.ErrSyntax, "a tops": api.ErrSyntax, "a to": api.ErrSyntax, "a top bottom": api.ErrSyntax, "a\ttop": api.ErrSyntax, "a top\n": api.ErrSyntax, "a:top": api.ErrSyntax, "a 0": api.ErrSyntax, "a\u00a0top": api.ErrSyntax, // the form of a part
		",": api.ErrSyntax, ", ": api.ErrSyntax, "a top,": api.ErrSyntax, "a top, ": api.ErrSyntax, ", a top": api.ErrSyntax, "a top, , b top": api.ErrSyntax, "a top,b top": api.ErrSyntax, "a top,  b top": api.ErrSyntax, "a top ,b top": api.ErrSyntax, "a top , b top": api.ErrSyntax, "a top; b top": api.ErrSyntax, "a top b top": api.ErrSyntax, "a top,\tb top": api.ErrSyntax, "a top,, b top": api.ErrSyntax, // where a part ends
		"node top": api.ErrName, " top": api.ErrName, "1 top": api.ErrName, "1a left": api.ErrName, "cluster left": api.ErrName, "a-b top": api.ErrName, "a,b top": api.ErrName, ",a top": api.ErrName, "a\nb top": api.ErrName, "\x00 top": api.ErrName, "\xff top": api.ErrName, "é right": api.ErrName, "abcdefghijklmnopq top": api.ErrName, "a\t top": api.ErrName, `"a" top`: api.ErrName, "a top, ,b top": api.ErrName, "a top, node left": api.ErrName, "a top,  top": api.ErrName, // names
		"a top, a left": api.ErrDup, "a top, a top": api.ErrDup, "a top, b top, a right": api.ErrDup, "a top, b left, b left": api.ErrDup, // names that are not new
		eight + ", i top": api.ErrLimit, eight + ", i left, j left": api.ErrLimit, // too many ports
		"node up": api.ErrSyntax, "a top, a up": api.ErrSyntax, " up": api.ErrSyntax, eight + ", i up": api.ErrSyntax, eight + ", a up": api.ErrSyntax, eight + ", ": api.ErrSyntax, eight + ", node top": api.ErrName, eight + ", a top": api.ErrDup, // of one part, the first error counts
		"a top, b up, a left": api.ErrSyntax, "a top, a left, b up": api.ErrDup, "node top, b up": api.ErrName, "b up, node top": api.ErrSyntax, "a top, a left, node top": api.ErrDup, "node top, a top, a top": api.ErrName, eight + ", i top, a top": api.ErrLimit, eight + ", i top, x up": api.ErrLimit, "a top, " + eight: api.ErrDup, // of several parts, the first one counts
	} {
		if got, err := attrs.Ports(val); len(got) != 0 || err != want {
			t.Errorf("Ports(%q) = %v, %d, want %d", val, got, err, want)
		}
		checkPorts(t, val)
	}
}

// P10.5: all short texts of what ports consist of.
func TestPortsOfShortTexts(t *testing.T) {
	pieces := []string{"a", "b", "top", "left", "up", " ", ",", ", ", "node"}
	texts := []string{""}
	for i, n := 0, 0; n < 6; n++ {
		for end := len(texts); i < end; i++ {
			checkPorts(t, texts[i])
			for _, piece := range pieces {
				texts = append(texts, texts[i]+piece)
			}
		}
	}
}

// P10.5: random lists of ports, with up to two more than there may be, and with
// changes.
func TestRandomPorts(t *testing.T) {
	r := rand.New(rand.NewPCG(10, 5))
	names := []string{"a", "b", "c", "d", "e", "f", "g", "h", "i", "j", "abcdefghijklmnop", "top", "Node"}
	bad := []string{"", "1", "node", "a b", "a,b", "abcdefghijklmnopq", "\xff"}
	count := map[api.Errno]int{}
	for range 100000 {
		r.Shuffle(len(names), func(i, j int) { names[i], names[j] = names[j], names[i] })
		parts := []string{}
		for i := range r.IntN(ports + 3) {
			name, side := names[i], pick(r, []string{"top", "right", "bottom", "left"})
			switch r.IntN(60) {
			case 0:
				name = pick(r, bad)
			case 1:
				name = pick(r, names)
			case 2:
				side = pick(r, []string{"", "up", "Top", "top ", " top"})
			}
			parts = append(parts, name+" "+side)
		}
		val := strings.Join(parts, ", ")
		_, err := wantedPorts(val)
		count[err]++
		checkPorts(t, val)
	}
	for _, err := range []api.Errno{api.OK, api.ErrSyntax, api.ErrName, api.ErrDup, api.ErrLimit} {
		if count[err] < 500 {
			t.Errorf("only %d texts lead to %d", count[err], err)
		}
	}
}

// 0.4, 0.8: arguments stay as they are, and what lies behind the end of a slice
// does not count.
func TestArguments(t *testing.T) {
	whole := list("width=3", "b=1", "a=2", "width=4", "a=5", "height=6")
	base, own := whole[:2], whole[2:4]
	before := slices.Clone(whole)
	for range 2 {
		if got := attrs.Merge(base, own); !slices.Equal(got, list("a=2", "b=1", "width=4")) {
			t.Errorf("Merge = %q", got)
		}
		if got := attrs.Merge(base, base[:1]); !slices.Equal(got, list("b=1", "width=3")) {
			t.Errorf("Merge = %q", got)
		}
		if got := attrs.Number(api.SNode, base, "width"); got != 3000 {
			t.Errorf("Number = %d", got)
		}
		if got := attrs.Number(api.SNode, own, "height"); got != 10000 {
			t.Errorf("Number = %d", got)
		}
		if val, ok := attrs.Get(own, "a"); val != "2" || !ok {
			t.Errorf("Get = %q, %v", val, ok)
		}
		if err := attrs.CheckAll(api.SNode, whole[:1]); err != api.OK {
			t.Errorf("CheckAll = %d", err)
		}
		if !slices.Equal(whole, before) {
			t.Fatalf("the arguments became %q", whole)
		}
	}
}

// 0.4, 0.9: results are new memory, and equal from call to call.
func TestNewMemory(t *testing.T) {
	base, own := list("a=1", "c=3"), list("b=2")
	want := list("a=1", "b=2", "c=3")
	for range 3 {
		for _, l := range [][2][]api.Attr{{base, own}, {want, nil}, {nil, want}} {
			got := attrs.Merge(l[0], l[1])
			if !slices.Equal(got, want) {
				t.Errorf("Merge(%q, %q) = %q", l[0], l[1], got)
			}
			clear(got[:cap(got)])
		}
		got, err := attrs.Ports("a top, b left")
		if !slices.Equal(got, []api.Port{{Name: "a"}, {Name: "b", Side: api.Left}}) || err != api.OK {
			t.Errorf("Ports = %v, %d", got, err)
		}
		clear(got[:cap(got)])
	}
	merged := attrs.Merge(base, own)
	base[0], own[0] = attr("x", "9"), attr("y", "9")
	if !slices.Equal(merged, want) {
		t.Errorf("after a change of the arguments the result is %q", merged)
	}
}

// 0.1: long texts and lists.
func TestLongArguments(t *testing.T) {
	const long = 1 << 20
	for _, val := range []string{strings.Repeat("x", long), strings.Repeat(", ", long), strings.Repeat(" ", long), strings.Repeat("1", long), "0." + strings.Repeat("0", long), strings.Repeat("a top, ", long/7)} {
		checkPorts(t, val)
		checkPorts(t, val+" top")
		for _, r := range table() {
			checkValue(t, r, val)
			if err := attrs.Check(r.kind, attr(val, "")); err != api.ErrName {
				t.Errorf("a key of %d bytes leads to %d", len(val), err)
			}
		}
	}
	l := slices.Repeat(list("b=1", "a=2", "c=3", "a=4"), 1<<18)
	if got := attrs.Merge(l, l[:len(l)-1]); !slices.Equal(got, list("a=2", "b=1", "c=3")) {
		t.Errorf("Merge = %q", got)
	}
	if val, ok := attrs.Get(l, "b"); val != "1" || !ok {
		t.Errorf("Get = %q, %v", val, ok)
	}
	if _, ok := attrs.Get(l, "d"); ok {
		t.Errorf("Get finds d")
	}
	if err := attrs.CheckAll(api.SNode, l); err != api.ErrLimit {
		t.Errorf("CheckAll = %d", err)
	}
	if got := attrs.Number(api.SNode, l, "width"); got != 20000 {
		t.Errorf("Number = %d", got)
	}
}
