package value_test

import (
	"fmt"
	"math"
	"slices"
	"strings"
	"testing"

	"wattle/api"
	"wattle/value"
)

var null = api.Value{}

func boolean(b bool) api.Value { return api.Value{Kind: api.KBool, Bool: b} }

func number(n int64) api.Value { return api.Value{Kind: api.KInt, Int: n} }

func text(s string) api.Value { return api.Value{Kind: api.KStr, Str: s} }

func node(id int64) api.Value { return api.Value{Kind: api.KNode, Int: id} }

func edge(id int64) api.Value { return api.Value{Kind: api.KEdge, Int: id} }

func list(l ...api.Value) api.Value { return api.Value{Kind: api.KList, List: l} }

// dict is a map of keys, parted by blanks, and values, as they are handed in.
func dict(keys string, l ...api.Value) api.Value {
	return api.Value{Kind: api.KMap, Keys: strings.Fields(keys), List: l}
}

// nested is v within n lists.
func nested(n int, v api.Value) api.Value {
	for range n {
		v = list(v)
	}
	return v
}

// many is a list of n times v.
func many(n int, v api.Value) api.Value {
	return list(slices.Repeat([]api.Value{v}, n)...)
}

// numbered is a map of n keys that rise, each with v.
func numbered(n int, v api.Value) api.Value {
	m := api.Value{Kind: api.KMap}
	for i := range n {
		m.Keys = append(m.Keys, fmt.Sprintf("k%06d", i))
		m.List = append(m.List, v)
	}
	return m
}

// scalars is values without others in them, of all kinds, with the ends of each.
func scalars() []api.Value {
	out := []api.Value{null, boolean(false), boolean(true)}
	for _, n := range []int64{math.MinInt64, math.MinInt64 + 1, -2, -1, 0, 1, 2, 255, 256, math.MaxInt64 - 1, math.MaxInt64} {
		out = append(out, number(n))
		if n > 0 {
			out = append(out, node(n), edge(n))
		}
	}
	for _, s := range []string{"", "\x00", "\x00\x00", "A", "a", "a\x00", "aa", "ab", "b", "ä", "\xff", "\xff\xfe", strings.Repeat("x", 300)} {
		out = append(out, text(s))
	}
	return out
}

// few is some values that are built of.
func few() []api.Value {
	return []api.Value{null, boolean(true), number(1), number(2), text("a"), node(1), edge(1), list(), dict("")}
}

// built is values of all kinds: scalars, lists and maps of up to two of few, and such as are nested deeper.
func built() []api.Value {
	out := scalars()
	out = append(out, list(), dict(""))
	for _, a := range few() {
		out = append(out, list(a), dict("x", a), dict("y", a), list(list(a)), dict("x", dict("y", a)), list(a, a, a))
		for _, b := range few() {
			out = append(out, list(a, b), dict("x y", a, b), dict("x z", a, b), list(list(a), b), dict("x y", list(a), b))
		}
	}
	return append(out, nested(31, null), nested(31, number(1)), nested(30, number(1)), many(4095, number(1)), many(4094, number(1)), numbered(4095, null))
}

// told is a value as a text that no other one has: its own fields, then those of its values.
func told(v api.Value) string {
	var b strings.Builder
	fmt.Fprintf(&b, "%d %t %d %q %q (", v.Kind, v.Bool, v.Int, v.Str, v.Keys)
	for _, x := range v.List {
		b.WriteString(told(x) + ";")
	}
	return b.String() + ")"
}

// mapped is v within n maps.
func mapped(n int, v api.Value) api.Value {
	for range n {
		v = dict("k", v)
	}
	return v
}

// within is a list that holds itself, n times.
func within(n int) api.Value {
	l := make([]api.Value, n)
	for i := range l {
		l[i] = list(l...)
	}
	return list(l...)
}

// doubled is a list of twice the same list, and so on, n deep: few lists, and more parts than can be gone over.
func doubled(n int) api.Value {
	v := list()
	for range n {
		v = list(v, v)
	}
	return v
}

// TestCheckMay: 3.1, what may be: each kind, and each at its limits.
func TestCheckMay(t *testing.T) {
	for _, v := range built() {
		if e := value.Check(v); e != api.OK {
			t.Errorf("Check(%.200s) = %d, want 0", told(v), e)
		}
	}
	long := strings.Repeat("k", api.MaxName)
	for name, v := range map[string]api.Value{
		"a key of 64 bytes":             dict(long, null),
		"keys of any bytes":             {Kind: api.KMap, Keys: []string{"\x00", "\x00\x00", " ", "ä", "\xff"}, List: []api.Value{null, null, null, null, null}},
		"32 deep":                       nested(31, number(1)),
		"32 deep, lists alone":          nested(31, list()),
		"32 deep, maps":                 mapped(31, null),
		"32 deep, at several places":    list(nested(30, null), nested(30, null), null, nested(30, dict(""))),
		"4096 parts":                    many(4095, null),
		"4096 parts, in a map":          numbered(4095, null),
		"4096 parts, in 2 lists":        list(many(2000, null), many(2093, null)),
		"4096 parts, in lists of one":   list(append(slices.Repeat([]api.Value{list(null)}, 2047), null)...),
		"lists without elements":        {Kind: api.KInt, Int: 1, List: []api.Value{}, Keys: []string{}},
		"a list with empty keys":        {Kind: api.KList, Keys: []string{}, List: []api.Value{null}},
		"null with lists of no element": {List: []api.Value{}, Keys: []string{}},
		"a text of 2^20 bytes":          text(strings.Repeat("z", 1<<20)),
	} {
		if e := value.Check(v); e != api.OK {
			t.Errorf("%s: Check = %d, want 0", name, e)
		}
	}
}

// wrong is values that may not be.
func wrong() map[string]api.Value {
	out := map[string]api.Value{
		"node 0":                      node(0),
		"node -1":                     node(-1),
		"the least node":              node(math.MinInt64),
		"edge 0":                      edge(0),
		"edge -1":                     edge(-1),
		"the least edge":              edge(math.MinInt64),
		"more keys than values":       dict("x y", null),
		"more values than keys":       dict("x", null, null),
		"keys, and no value":          dict("x"),
		"a value, and no key":         dict("", null),
		"keys that fall":              dict("y x", null, null),
		"a key twice":                 dict("x x", null, null),
		"a key twice, the last":       dict("w x x", null, null, null),
		"keys that fall at the end":   dict("a c b", null, null, null),
		"keys byte by byte":           dict("a B", null, null),
		"keys that fall, by bytes":    dict("\xff ä", null, null),
		"an empty key":                {Kind: api.KMap, Keys: []string{""}, List: []api.Value{null}},
		"an empty key among others":   {Kind: api.KMap, Keys: []string{"", "a"}, List: []api.Value{null, null}},
		"a key of 65 bytes":           dict(strings.Repeat("k", api.MaxName+1), null),
		"a key of 65 bytes, 33 signs": dict("k"+strings.Repeat("ä", 32), null),
		"33 deep":                     nested(32, null),
		"33 deep, lists alone":        nested(32, list()),
		"33 deep, maps":               mapped(32, null),
		"33 deep, a map and lists":    dict("k", nested(31, null)),
		"33 deep, at the last place":  list(null, null, nested(31, null)),
		"2^16 deep":                   nested(1<<16-1, null),
		"4097 parts":                  many(4096, null),
		"4097 parts, in a map":        numbered(4096, null),
		"4097 parts, in 2 lists":      list(many(2000, null), many(2094, null)),
		"4097 parts, in 2 maps":       list(numbered(2000, null), numbered(2094, null)),
		"2^20 parts":                  many(1<<20-1, null),
		"itself in it":                within(1),
		"itself in it, thrice":        within(3),
		"itself in it, 2^12 times":    within(1 << 12),
		"lists twice, 12 deep":        doubled(12),
		"lists twice, 31 deep":        doubled(31),
		"lists twice, 60 deep":        doubled(60),
	}
	for _, kind := range []int{-1, 8, 9, 255, 256, 258, math.MinInt, math.MaxInt, 1 << 32, 1<<32 + api.KInt} {
		out[fmt.Sprintf("kind %d", kind)] = api.Value{Kind: kind}
		out[fmt.Sprintf("kind %d with all", kind)] = api.Value{Kind: kind, Bool: true, Int: 1, Str: "x", Keys: []string{"x"}, List: []api.Value{null}}
	}
	for name, v := range strayed() {
		out[name] = v
	}
	return out
}

// strayed is values of each kind with a field that their kind has no use for.
func strayed() map[string]api.Value {
	out := map[string]api.Value{}
	for _, v := range few() {
		b, n, s, l, k := v, v, v, v, v
		b.Bool, n.Int, s.Str = true, 1, "a"
		l.List, k.Keys = []api.Value{null}, []string{"x"}
		name := fmt.Sprintf("kind %d, of %s, with ", v.Kind, told(v))
		if v.Kind != api.KBool {
			out[name+"Bool"] = b
		}
		if v.Kind != api.KInt && v.Kind != api.KNode && v.Kind != api.KEdge {
			n.Int = 1
			out[name+"Int 1"] = n
			n.Int = -1
			out[name+"Int -1"] = n
		}
		if v.Kind != api.KStr {
			out[name+"Str"] = s
		}
		if v.Kind != api.KList {
			out[name+"List"] = l
		}
		out[name+"Keys"] = k
	}
	return out
}

// TestCheckWrong: 3.1, what may not be: at each limit the next one; a field too much; and the same within lists and maps.
func TestCheckWrong(t *testing.T) {
	for name, v := range wrong() {
		for in, x := range map[string]api.Value{"": v, " in a list": list(null, v), " in a map": dict("a b", null, v), " in lists in a map": dict("a", list(list(v)))} {
			if e := value.Check(x); e != api.ErrArg {
				t.Errorf("%s%s: Check = %d, want %d", name, in, e, api.ErrArg)
			}
		}
	}
}

// parts is how many parts a value has.
func parts(v api.Value) int {
	n := 1
	for _, x := range v.List {
		n += parts(x)
	}
	return n
}

// plain tells whether there is no node and no edge in a value.
func plain(v api.Value) bool {
	for _, x := range v.List {
		if !plain(x) {
			return false
		}
	}
	return v.Kind != api.KNode && v.Kind != api.KEdge
}

// TestParts: 3.1, a value and all those in it.
func TestParts(t *testing.T) {
	for _, v := range built() {
		if got := value.Parts(v); got != parts(v) {
			t.Errorf("Parts(%.200s) = %d, want %d", told(v), got, parts(v))
		}
	}
	for _, c := range []struct {
		v    api.Value
		want int
	}{
		{null, 1}, {list(), 1}, {dict(""), 1}, {list(null), 2}, {dict("x", null), 2}, {list(list(), list(number(1), number(1))), 5},
		{nested(31, null), 32}, {many(4095, null), 4096}, {numbered(4095, null), 4096}, {text("many bytes"), 1}, {node(7), 1},
	} {
		if got := value.Parts(c.v); got != c.want {
			t.Errorf("Parts(%.200s) = %d, want %d", told(c.v), got, c.want)
		}
	}
}

// TestPlain: 3.1, a node or an edge, wherever it stands.
func TestPlain(t *testing.T) {
	for _, v := range built() {
		if got := value.Plain(v); got != plain(v) {
			t.Errorf("Plain(%.200s) = %t", told(v), got)
		}
	}
	for _, v := range []api.Value{node(1), edge(1), node(math.MaxInt64), edge(math.MaxInt64)} {
		for _, x := range []api.Value{v, list(v), dict("x", v), list(null, list(), list(null, v)), nested(31, v), dict("a b", list(), dict("c", v)), list(append(slices.Repeat([]api.Value{null}, 4094), v)...)} {
			if value.Plain(x) {
				t.Errorf("Plain(%.200s) = true", told(x))
			}
		}
	}
	for _, v := range []api.Value{null, list(), dict(""), number(1), list(number(6), number(7)), nested(31, null), many(4095, text("n"))} {
		if !value.Plain(v) {
			t.Errorf("Plain(%.200s) = false", told(v))
		}
	}
}

// TestEnds: P1, each call ends at values that may not be, alone and beside others.
func TestEnds(t *testing.T) {
	bad := wrong()
	others := append(few(), nested(31, null), many(4095, null), numbered(4095, null))
	for _, name := range []string{"itself in it", "itself in it, thrice", "lists twice, 60 deep", "2^16 deep", "more keys than values", "kind -1 with all"} {
		others = append(others, bad[name])
	}
	for name, v := range bad {
		t.Run(name, func(t *testing.T) {
			value.Check(v)
			value.Parts(v)
			value.Plain(v)
			value.Copy(v)
			for _, key := range []string{"", "x", "y"} {
				value.Get(v, key)
				m := v
				m.Kind = api.KMap
				value.Get(m, key)
			}
			if _, e := value.Map([]string{"x"}, []api.Value{v}); e != api.ErrArg {
				t.Errorf("Map = %d, want %d", e, api.ErrArg)
			}
			for _, w := range append(others, v) {
				value.Same(v, w)
				value.Equal(v, w)
				value.Equal(w, v)
				value.Less(v, w)
				value.Order(v, w)
				value.Order(w, v)
			}
		})
	}
}

// TestUntouched: R3, P2: nothing that is handed in is changed, and what is asked twice is answered twice alike.
func TestUntouched(t *testing.T) {
	all := built()
	before := make([]string, len(all))
	for i, v := range all {
		before[i] = told(v)
	}
	for i, v := range all {
		w := all[(i*7+3)%len(all)]
		for range 2 {
			value.Check(v)
			value.Parts(v)
			value.Plain(v)
			value.Copy(v)
			value.Get(v, "x")
		}
		if value.Same(v, w) != value.Same(v, w) || value.Equal(v, w) != value.Equal(v, w) || value.Less(v, w) != value.Less(v, w) || value.Order(v, w) != value.Order(v, w) {
			t.Errorf("%.200s and %.200s: not alike when asked twice", told(v), told(w))
		}
	}
	for i, v := range all {
		if told(v) != before[i] {
			t.Errorf("changed: %.200s, was %.200s", told(v), before[i])
		}
	}
}
