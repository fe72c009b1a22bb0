package show_test

import (
	"math"
	"regexp"
	"strconv"
	"strings"
	"testing"

	"wattle/api"
	"wattle/internal/sample"
	"wattle/show"
)

var (
	null     = api.Value{}
	boolean  = sample.Bool
	number   = sample.Int
	text     = sample.Text
	node     = sample.Node
	edge     = sample.Edge
	list     = sample.List
	dict     = sample.Dict
	nested   = sample.Nested
	mapped   = sample.Mapped
	many     = sample.Many
	numbered = sample.Numbered
	told     = sample.Told
)

// plain is a plain name, by the chapter's words.
var plain = regexp.MustCompile(`^[a-zA-Z_][a-zA-Z0-9_]{0,63}\z`)

// names is texts, and whether they are plain names.
func names() map[string]bool {
	return map[string]bool{
		"a": true, "z": true, "A": true, "Z": true, "_": true, "__": true, "_0": true, "x9": true, "null": true, "MATCH": true, "aZ_09": true,
		strings.Repeat("n", 64):        true,
		strings.Repeat("_", 63) + "9":  true,
		strings.Repeat("n", 65):        false,
		strings.Repeat("n", 64) + "\n": false,
		strings.Repeat("ä", 32):        false,
		strings.Repeat("n", 1<<16):     false,
		"":                             false, "0": false, "9": false, "0a": false, "1": false, " ": false, " a": false, "a ": false, "a b": false, "a\n": false, "a-b": false, "a.b": false,
		"$a": false, "a$": false, "'a'": false, "\x00": false, "a\x00": false, "ä": false, "aä": false, "é": false, "a\xff": false, "\xff": false, "\uff41": false, "a\u0661": false, "\u017f": false, "\u212a": false, "\uff3f": false,
	}
}

// TestName: 5.1, plain names, and what is none, at both ends of each kind of byte.
func TestName(t *testing.T) {
	for s, want := range names() {
		for range 2 {
			if got := show.Name(s); got != want {
				t.Errorf("Name(%.100q) = %t", s, got)
			}
		}
	}
	all := texts(2, octets()...)
	for _, c := range octets() {
		for _, n := range []int{1, 62, 63, 64} {
			all = append(all, strings.Repeat("n", n)+c, c+strings.Repeat("_", n), "n"+c+strings.Repeat("0", n-1))
		}
	}
	for n := range 70 {
		all = append(all, strings.Repeat("Q", n), "_"+strings.Repeat("7", n))
	}
	for _, s := range all {
		if got, want := show.Name(s), plain.MatchString(s); got != want {
			t.Fatalf("Name(%q) = %t", s, got)
		}
	}
}

// TestKey: 5.2, a plain name as it is, any other text in quotes.
func TestKey(t *testing.T) {
	for s, ok := range names() {
		want := s
		if !ok {
			want = quoted(s)
		}
		for range 2 {
			if got := show.Key(s); got != want {
				t.Errorf("Key(%.100q) = %.100s, want %.100s", s, got, want)
			}
		}
	}
	for s, want := range odd() {
		if got := show.Key(s); got != want {
			t.Errorf("Key(%q) = %s, want %s", s, got, want)
		}
	}
	for s, want := range map[string]string{"": `''`, "a": `a`, "a b": `'a b'`, "a'": `'a\''`, "1": `'1'`, "\xff": `'\xff'`, "ä": `'ä'`} {
		if got := show.Key(s); got != want {
			t.Errorf("Key(%q) = %s, want %s", s, got, want)
		}
	}
}

// shown is a value's text, by the chapter's words of 5.2.
func shown(v api.Value) string {
	var parts []string
	for i, x := range v.List {
		part := shown(x)
		if v.Kind == api.KMap && plain.MatchString(v.Keys[i]) {
			part = v.Keys[i] + ": " + part
		} else if v.Kind == api.KMap {
			part = quoted(v.Keys[i]) + ": " + part
		}
		parts = append(parts, part)
	}
	return map[int]string{
		api.KNull: "null",
		api.KBool: strconv.FormatBool(v.Bool),
		api.KInt:  strconv.FormatInt(v.Int, 10),
		api.KStr:  quoted(v.Str),
		api.KList: "[" + strings.Join(parts, ", ") + "]",
		api.KMap:  "{" + strings.Join(parts, ", ") + "}",
		api.KNode: "#n" + strconv.FormatInt(v.Int, 10),
		api.KEdge: "#e" + strconv.FormatInt(v.Int, 10),
	}[v.Kind]
}

// keyed is a map of one key, of any bytes, and a value.
func keyed(key string, v api.Value) api.Value {
	return api.Value{Kind: api.KMap, Keys: []string{key}, List: []api.Value{v}}
}

// values is values of all kinds, each once, with the ends of how deep and how great they may be, and texts that look like other values' texts.
func values() []api.Value {
	out := sample.Built()
	for _, s := range append(texts(1, octets()...), "null", "true", "1", "#n1", "[]", "{}", "a, b", "', '", "[1, 2]", `\x00`, `\n`, "\\xff", "ä\u00a0") {
		out = append(out, list(text(s), text(s)), list(text(s), number(7)), list(text(s+"', '"+s)))
		if s != "" {
			out = append(out, keyed(s, text(s)), keyed(s, keyed(s, null)), keyed(s+": null", null), list(keyed(s, edge(7))))
		}
	}
	for _, n := range []int64{math.MinInt64, -1, 0, 1, 10, math.MaxInt64} {
		out = append(out, list(number(n), number(n)), nested(7, number(n)))
		if n > 0 {
			out = append(out, dict("a b", node(n), edge(n)))
		}
	}
	return append(out,
		nested(31, text("")), nested(31, list()), nested(30, keyed("é", null)), mapped(31, null), mapped(31, dict("")), mapped(30, list(null)),
		many(4095, text("'")), many(4093, null), numbered(4095, node(1)), list(many(2000, null), numbered(2093, null)),
		keyed(strings.Repeat("n", 64), null), keyed(strings.Repeat("ä", 32), null), keyed("\xff", text(strings.Repeat("x\x00", 1<<12))))
}

// TestShow: 5.2, values of each kind.
func TestShow(t *testing.T) {
	for _, c := range []struct {
		v    api.Value
		want string
	}{
		{null, `null`},
		{boolean(true), `true`},
		{boolean(false), `false`},
		{number(0), `0`},
		{number(-7), `-7`},
		{number(math.MaxInt64), `9223372036854775807`},
		{number(math.MinInt64), `-9223372036854775808`},
		{text(""), `''`},
		{text("null"), `'null'`},
		{text("a'b\n"), `'a\'b\n'`},
		{text("\xc3"), `'\xc3'`},
		{list(), `[]`},
		{api.Value{Kind: api.KList, List: []api.Value{}, Keys: []string{}}, `[]`},
		{list(null), `[null]`},
		{list(number(1), number(-2)), `[1, -2]`},
		{list(list(), list(list(null)), text(", ")), `[[], [[null]], ', ']`},
		{dict(""), `{}`},
		{api.Value{Kind: api.KMap, List: []api.Value{}, Keys: []string{}}, `{}`},
		{dict("a", null), `{a: null}`},
		{dict("B _ a", number(1), dict(""), list(text("x"))), `{B: 1, _: {}, a: ['x']}`},
		{dict("1 null true", null, null, boolean(true)), `{'1': null, null: null, true: true}`},
		{keyed(" ", list(number(1), number(-2))), `{' ': [1, -2]}`},
		{keyed("a'", keyed("\xff\n", null)), `{'a\'': {'\xff\n': null}}`},
		{keyed(strings.Repeat("n", 64), null), `{` + strings.Repeat("n", 64) + `: null}`},
		{node(1), `#n1`},
		{node(math.MaxInt64), `#n9223372036854775807`},
		{edge(23), `#e23`},
		{list(node(1), edge(1), number(1)), `[#n1, #e1, 1]`},
		{dict("e n", edge(4), node(3)), `{e: #e4, n: #n3}`},
		{nested(31, null), strings.Repeat("[", 31) + "null" + strings.Repeat("]", 31)},
		{mapped(31, list()), strings.Repeat("{k: ", 31) + "[]" + strings.Repeat("}", 31)},
		{many(4095, null), "[" + strings.Repeat("null, ", 4094) + "null]"},
	} {
		for range 2 {
			if got := show.Show(c.v); got != c.want {
				t.Errorf("Show(%.200s) = %.200s, want %.200s", told(c.v), got, c.want)
			}
		}
	}
	for _, v := range values() {
		if got := show.Show(v); got != shown(v) {
			t.Errorf("Show(%.200s) = %.200s, want %.200s", told(v), got, shown(v))
		}
	}
}

// TestDistinct: 5.3, two values have the same text just if they are the same.
func TestDistinct(t *testing.T) {
	of := map[string]string{}
	texts := map[string]bool{}
	for _, v := range values() {
		s, fields := show.Show(v), told(v)
		if had, ok := of[s]; ok && had != fields {
			t.Errorf("%.200s is the text of %.200s and of %.200s", s, had, fields)
		}
		of[s], texts[fields] = fields, true
	}
	if len(of) != len(texts) {
		t.Errorf("%d texts of %d values", len(of), len(texts))
	}
}

// TestUntouched: R3, what is handed in is not changed, and what lies behind a list's length is not told.
func TestUntouched(t *testing.T) {
	for _, v := range values() {
		before := told(v)
		show.Show(v)
		if after := told(v); after != before {
			t.Errorf("changed: %.200s, was %.200s", after, before)
		}
	}
	l, k := []api.Value{number(1), number(2), number(3)}, []string{"a", "b", "c"}
	for n := range 3 {
		m := api.Value{Kind: api.KMap, List: l[:n], Keys: k[:n]}
		if got, want := show.Show(list(m, api.Value{Kind: api.KList, List: l[:n]})), []string{"[{}, []]", "[{a: 1}, [1]]", "[{a: 1, b: 2}, [1, 2]]"}[n]; got != want {
			t.Errorf("Show = %s, want %s", got, want)
		}
	}
	if told(list(l...)) != told(list(number(1), number(2), number(3))) || strings.Join(k, " ") != "a b c" {
		t.Errorf("changed: %s, %q", told(list(l...)), k)
	}
}

// TestEnds: P1, P2, Show ends at values that may not be, wherever they stand, and says the same twice.
func TestEnds(t *testing.T) {
	for name, v := range sample.Wrong() {
		for _, x := range []api.Value{v, list(null, v), dict("a b", null, v), nested(31, v), mapped(40, v)} {
			if a, b := show.Show(x), show.Show(x); a != b {
				t.Errorf("%s: Show = %.200s, then %.200s", name, a, b)
			}
		}
	}
}
