package value_test

import (
	"math"
	"slices"
	"strings"
	"testing"

	"wattle/api"
	"wattle/internal/sample"
	"wattle/value"
)

var (
	null     = api.Value{}
	boolean  = sample.Bool
	number   = sample.Int
	text     = sample.Text
	node     = sample.Node
	edge     = sample.Edge
	list     = sample.List
	dict     = sample.Dict
	nested   = sample.Nested
	mapped   = sample.Mapped
	many     = sample.Many
	numbered = sample.Numbered
	few      = sample.Few
	built    = sample.Built
	told     = sample.Told
)

// TestCheckMay: 3.1, what may be: each kind, and each at its limits.
func TestCheckMay(t *testing.T) {
	for _, v := range built() {
		if e := value.Check(v); e != api.OK {
			t.Errorf("Check(%.200s) = %d, want 0", told(v), e)
		}
	}
	long := strings.Repeat("k", api.MaxName)
	for name, v := range map[string]api.Value{
		"a key of 64 bytes":             dict(long, null),
		"keys of any bytes":             {Kind: api.KMap, Keys: []string{"\x00", "\x00\x00", " ", "ä", "\xff"}, List: []api.Value{null, null, null, null, null}},
		"32 deep":                       nested(31, number(1)),
		"32 deep, lists alone":          nested(31, list()),
		"32 deep, maps":                 mapped(31, null),
		"32 deep, at several places":    list(nested(30, null), nested(30, null), null, nested(30, dict(""))),
		"4096 parts":                    many(4095, null),
		"4096 parts, in a map":          numbered(4095, null),
		"4096 parts, in 2 lists":        list(many(2000, null), many(2093, null)),
		"4096 parts, in lists of one":   list(append(slices.Repeat([]api.Value{list(null)}, 2047), null)...),
		"lists without elements":        {Kind: api.KInt, Int: 1, List: []api.Value{}, Keys: []string{}},
		"a list with empty keys":        {Kind: api.KList, Keys: []string{}, List: []api.Value{null}},
		"null with lists of no element": {List: []api.Value{}, Keys: []string{}},
		"a text of 2^20 bytes":          text(strings.Repeat("z", 1<<20)),
	} {
		if e := value.Check(v); e != api.OK {
			t.Errorf("%s: Check = %d, want 0", name, e)
		}
	}
}

// TestCheckWrong: 3.1, what may not be: at each limit the next one; a field too much; and the same within lists and maps.
func TestCheckWrong(t *testing.T) {
	for name, v := range sample.Wrong() {
		for in, x := range map[string]api.Value{"": v, " in a list": list(null, v), " in a map": dict("a b", null, v), " in lists in a map": dict("a", list(list(v)))} {
			if e := value.Check(x); e != api.ErrArg {
				t.Errorf("%s%s: Check = %d, want %d", name, in, e, api.ErrArg)
			}
		}
	}
}

// parts is how many parts a value has.
func parts(v api.Value) int {
	n := 1
	for _, x := range v.List {
		n += parts(x)
	}
	return n
}

// plain tells whether there is no node and no edge in a value.
func plain(v api.Value) bool {
	for _, x := range v.List {
		if !plain(x) {
			return false
		}
	}
	return v.Kind != api.KNode && v.Kind != api.KEdge
}

// TestParts: 3.1, a value and all those in it.
func TestParts(t *testing.T) {
	for _, v := range built() {
		if got := value.Parts(v); got != parts(v) {
			t.Errorf("Parts(%.200s) = %d, want %d", told(v), got, parts(v))
		}
	}
	for _, c := range []struct {
		v    api.Value
		want int
	}{
		{null, 1}, {list(), 1}, {dict(""), 1}, {list(null), 2}, {dict("x", null), 2}, {list(list(), list(number(1), number(1))), 5},
		{nested(31, null), 32}, {many(4095, null), 4096}, {numbered(4095, null), 4096}, {text("many bytes"), 1}, {node(7), 1},
	} {
		if got := value.Parts(c.v); got != c.want {
			t.Errorf("Parts(%.200s) = %d, want %d", told(c.v), got, c.want)
		}
	}
}

// TestPlain: 3.1, a node or an edge, wherever it stands.
func TestPlain(t *testing.T) {
	for _, v := range built() {
		if got := value.Plain(v); got != plain(v) {
			t.Errorf("Plain(%.200s) = %t", told(v), got)
		}
	}
	for _, v := range []api.Value{node(1), edge(1), node(math.MaxInt64), edge(math.MaxInt64)} {
		for _, x := range []api.Value{v, list(v), dict("x", v), list(null, list(), list(null, v)), nested(31, v), dict("a b", list(), dict("c", v)), list(append(slices.Repeat([]api.Value{null}, 4094), v)...)} {
			if value.Plain(x) {
				t.Errorf("Plain(%.200s) = true", told(x))
			}
		}
	}
	for _, v := range []api.Value{null, list(), dict(""), number(1), list(number(6), number(7)), nested(31, null), many(4095, text("n"))} {
		if !value.Plain(v) {
			t.Errorf("Plain(%.200s) = false", told(v))
		}
	}
}

// TestEnds: P1, each call ends at values that may not be, alone and beside others.
func TestEnds(t *testing.T) {
	bad := sample.Wrong()
	others := append(few(), nested(31, null), many(4095, null), numbered(4095, null))
	for _, name := range []string{"itself in it", "itself in it, thrice", "lists twice, 60 deep", "2^16 deep", "more keys than values", "kind -1 with all"} {
		others = append(others, bad[name])
	}
	for name, v := range bad {
		t.Run(name, func(t *testing.T) {
			value.Check(v)
			value.Parts(v)
			value.Plain(v)
			value.Copy(v)
			for _, key := range []string{"", "x", "y"} {
				value.Get(v, key)
				m := v
				m.Kind = api.KMap
				value.Get(m, key)
			}
			if _, e := value.Map([]string{"x"}, []api.Value{v}); e != api.ErrArg {
				t.Errorf("Map = %d, want %d", e, api.ErrArg)
			}
			for _, w := range append(others, v) {
				value.Same(v, w)
				value.Equal(v, w)
				value.Equal(w, v)
				value.Less(v, w)
				value.Order(v, w)
				value.Order(w, v)
			}
		})
	}
}

// TestUntouched: R3, P2: nothing that is handed in is changed, and what is asked twice is answered twice alike.
func TestUntouched(t *testing.T) {
	all := built()
	before := make([]string, len(all))
	for i, v := range all {
		before[i] = told(v)
	}
	for i, v := range all {
		w := all[(i*7+3)%len(all)]
		for range 2 {
			value.Check(v)
			value.Parts(v)
			value.Plain(v)
			value.Copy(v)
			value.Get(v, "x")
		}
		if value.Same(v, w) != value.Same(v, w) || value.Equal(v, w) != value.Equal(v, w) || value.Less(v, w) != value.Less(v, w) || value.Order(v, w) != value.Order(v, w) {
			t.Errorf("%.200s and %.200s: not alike when asked twice", told(v), told(w))
		}
	}
	for i, v := range all {
		if told(v) != before[i] {
			t.Errorf("changed: %.200s, was %.200s", told(v), before[i])
		}
	}
}
