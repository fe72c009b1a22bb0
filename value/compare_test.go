package value_test

import (
	"bytes"
	"math"
	"slices"
	"testing"

	"wattle/api"
	"wattle/value"
)

// equal is the chapter's words of 3.2, read one behind the other.
func equal(a, b api.Value) api.Truth {
	if a.Kind == api.KNull || b.Kind == api.KNull {
		return api.Unknown
	}
	if a.Kind != b.Kind {
		return api.False
	}
	if a.Kind != api.KList && a.Kind != api.KMap {
		return truth(told(a) == told(b))
	}
	if len(a.List) != len(b.List) || !slices.Equal(a.Keys, b.Keys) {
		return api.False
	}
	unknown := false
	for i := range a.List {
		switch equal(a.List[i], b.List[i]) {
		case api.False:
			return api.False
		case api.Unknown:
			unknown = true
		}
	}
	if unknown {
		return api.Unknown
	}
	return api.True
}

func truth(b bool) api.Truth {
	if b {
		return api.True
	}
	return api.False
}

// ahead tells whether a stands ahead of b, by the chapter's words of 3.3.
func ahead(a, b api.Value) bool {
	kinds := []int{api.KMap, api.KNode, api.KEdge, api.KList, api.KStr, api.KBool, api.KInt, api.KNull}
	if a.Kind != b.Kind {
		return slices.Index(kinds, a.Kind) < slices.Index(kinds, b.Kind)
	}
	switch a.Kind {
	case api.KBool:
		return !a.Bool && b.Bool
	case api.KInt, api.KNode, api.KEdge:
		return a.Int < b.Int
	case api.KStr:
		return bytes.Compare([]byte(a.Str), []byte(b.Str)) < 0
	}
	for i := range a.List {
		if i == len(b.List) {
			return false
		}
		if a.Kind == api.KMap && a.Keys[i] != b.Keys[i] {
			return a.Keys[i] < b.Keys[i]
		}
		if told(a.List[i]) != told(b.List[i]) {
			return ahead(a.List[i], b.List[i])
		}
	}
	return len(a.List) < len(b.List)
}

// sign is -1, 0 or 1.
func sign(n int) int {
	switch {
	case n < 0:
		return -1
	case n > 0:
		return 1
	}
	return 0
}

// TestPairs: 3.2 and 3.3 of each two values, by the chapter's words.
func TestPairs(t *testing.T) {
	all := built()
	names := make([]string, len(all))
	for i, v := range all {
		names[i] = told(v)
	}
	for i, a := range all {
		for j, b := range all {
			if got, want := value.Same(a, b), names[i] == names[j]; got != want {
				t.Errorf("Same(%.200s, %.200s) = %t", told(a), told(b), got)
			}
			if got, want := value.Equal(a, b), equal(a, b); got != want {
				t.Errorf("Equal(%.200s, %.200s) = %d, want %d", told(a), told(b), got, want)
			}
			want := api.Unknown
			if a.Kind == b.Kind && (a.Kind == api.KInt || a.Kind == api.KStr || a.Kind == api.KBool) {
				want = truth(ahead(a, b))
			}
			if got := value.Less(a, b); got != want {
				t.Errorf("Less(%.200s, %.200s) = %d, want %d", told(a), told(b), got, want)
			}
			stands := 0
			if ahead(a, b) {
				stands = -1
			} else if ahead(b, a) {
				stands = 1
			}
			if got := value.Order(a, b); sign(got) != stands {
				t.Errorf("Order(%.200s, %.200s) = %d, want the sign of %d", told(a), told(b), got, stands)
			}
		}
	}
}

// TestSame: 3.2, what is the same, and what is not by one thing alone.
func TestSame(t *testing.T) {
	for _, c := range []struct {
		a, b api.Value
		want bool
	}{
		{null, null, true},
		{list(null), list(null), true},
		{dict("x", null), dict("x", null), true},
		{number(1), number(1), true},
		{number(math.MaxInt64), number(math.MinInt64), false},
		{number(1), boolean(true), false},
		{number(0), boolean(false), false},
		{number(0), null, false},
		{boolean(false), null, false},
		{text(""), null, false},
		{list(), null, false},
		{dict(""), list(), false},
		{node(1), edge(1), false},
		{node(1), number(1), false},
		{node(1), node(1), true},
		{text("1"), number(1), false},
		{text("ä"), text("a\u0308"), false},
		{list(number(1)), number(1), false},
		{list(), list(null), false},
		{list(number(1), number(2)), list(number(2), number(1)), false},
		{dict("x", number(1)), dict("y", number(1)), false},
		{dict("x y", number(1), number(2)), dict("x y", number(2), number(1)), false},
		{dict("x", null), dict(""), false},
		{api.Value{Kind: api.KList, List: []api.Value{}, Keys: []string{}}, api.Value{Kind: api.KList}, true},
		{api.Value{Kind: api.KMap, List: []api.Value{}}, api.Value{Kind: api.KMap, Keys: []string{}}, true},
		{many(4095, number(1)), many(4095, number(1)), true},
		{many(4095, number(1)), list(append(slices.Repeat([]api.Value{number(1)}, 4094), number(2))...), false},
		{nested(31, number(1)), nested(31, number(1)), true},
		{nested(31, number(1)), nested(31, number(2)), false},
		{mapped(31, number(1)), mapped(31, null), false},
	} {
		if got := value.Same(c.a, c.b); got != c.want {
			t.Errorf("Same(%.200s, %.200s) = %t", told(c.a), told(c.b), got)
		}
	}
}

// TestEqual: 3.2, null is not equal to anything, nor not equal; one place that is unlike is enough.
func TestEqual(t *testing.T) {
	x, y := number(1), number(2)
	for _, c := range []struct {
		a, b api.Value
		want api.Truth
	}{
		{null, null, api.Unknown},
		{null, list(), api.Unknown},
		{text("a"), null, api.Unknown},
		{x, x, api.True},
		{x, y, api.False},
		{x, text("1"), api.False},
		{boolean(true), x, api.False},
		{node(1), node(1), api.True},
		{node(1), node(2), api.False},
		{node(1), edge(1), api.False},
		{edge(2), edge(2), api.True},
		{list(), list(), api.True},
		{dict(""), dict(""), api.True},
		{list(), dict(""), api.False},
		{list(x, null), list(x, y), api.Unknown},
		{list(x, null), list(y, y), api.False},
		{list(null, x), list(y, y), api.False},
		{list(null, x), list(y, x), api.Unknown},
		{list(null), list(null), api.Unknown},
		{list(x), list(x, y), api.False},
		{list(null), list(null, null), api.False},
		{list(null), list(), api.False},
		{list(list(null)), list(list(x)), api.Unknown},
		{list(list(null), x), list(list(x), y), api.False},
		{list(list()), list(x), api.False},
		{dict("x", null), dict("x", x), api.Unknown},
		{dict("x", null), dict("y", null), api.False},
		{dict("x", null), dict("x y", null, null), api.False},
		{dict("x y", null, x), dict("x y", x, x), api.Unknown},
		{dict("x y", null, x), dict("x y", x, y), api.False},
		{dict("x y", x, x), dict("x z", x, x), api.False},
		{dict("x", list(x, null)), dict("x", list(y, null)), api.False},
		{api.Value{Kind: api.KMap, Keys: []string{}, List: []api.Value{}}, api.Value{Kind: api.KMap}, api.True},
		{nested(31, null), nested(31, null), api.Unknown},
		{nested(31, x), nested(31, x), api.True},
		{many(4095, null), list(append(slices.Repeat([]api.Value{null}, 4094), x)...), api.Unknown},
		{list(append(slices.Repeat([]api.Value{null}, 4094), y)...), list(append(slices.Repeat([]api.Value{null}, 4094), x)...), api.False},
	} {
		if got := value.Equal(c.a, c.b); got != c.want {
			t.Errorf("Equal(%.200s, %.200s) = %d, want %d", told(c.a), told(c.b), got, c.want)
		}
	}
}

// TestLess: 3.3, of two numbers, two texts, two truths; Unknown of any others, also of two that are the same.
func TestLess(t *testing.T) {
	for _, c := range []struct {
		a, b api.Value
		want api.Truth
	}{
		{number(1), number(2), api.True},
		{number(2), number(1), api.False},
		{number(1), number(1), api.False},
		{number(math.MinInt64), number(math.MaxInt64), api.True},
		{number(math.MaxInt64), number(math.MinInt64), api.False},
		{number(-1), number(0), api.True},
		{text(""), text("a"), api.True},
		{text("a"), text("a"), api.False},
		{text("Z"), text("a"), api.True},
		{text("a"), text("aa"), api.True},
		{text("b"), text("aa"), api.False},
		{text("z"), text("ä"), api.True},
		{text("\x7f"), text("\x80"), api.True},
		{text("10"), text("9"), api.True},
		{boolean(false), boolean(true), api.True},
		{boolean(true), boolean(false), api.False},
		{boolean(true), boolean(true), api.False},
		{number(1), text("a"), api.Unknown},
		{boolean(false), number(1), api.Unknown},
		{null, null, api.Unknown},
		{null, number(1), api.Unknown},
		{number(1), null, api.Unknown},
		{node(1), node(2), api.Unknown},
		{edge(1), edge(2), api.Unknown},
		{node(1), number(2), api.Unknown},
		{list(), list(null), api.Unknown},
		{list(number(1)), list(number(2)), api.Unknown},
		{dict(""), dict("x", null), api.Unknown},
	} {
		if got := value.Less(c.a, c.b); got != c.want {
			t.Errorf("Less(%.200s, %.200s) = %d, want %d", told(c.a), told(c.b), got, c.want)
		}
	}
}

// TestOrder: 3.3, a row of values, each of which stands ahead of all that follow.
func TestOrder(t *testing.T) {
	row := []api.Value{
		dict(""),
		dict("A", null),
		dict("a", dict("")),
		dict("a", number(1)),
		dict("a c", number(1), number(1)),
		dict("a", null),
		dict("a b", null, null),
		dict("a c", null, dict("")),
		dict("aa", dict("")),
		dict("b", dict("")),
		node(1), node(2), node(256), node(math.MaxInt64),
		edge(1), edge(2), edge(math.MaxInt64),
		list(),
		list(dict("")),
		list(dict(""), null),
		list(list()),
		list(list(), list()),
		list(list(null)),
		list(text("a"), number(9)),
		list(text("b")),
		list(number(1)),
		list(number(1), number(1)),
		list(number(1), null),
		list(number(2)),
		list(null),
		list(null, dict("")),
		text(""), text("\x00"), text("A"), text("a"), text("a\x00"), text("ab"), text("b"), text("\xff"),
		boolean(false), boolean(true),
		number(math.MinInt64), number(-10), number(-9), number(0), number(9), number(10), number(math.MaxInt64),
		null,
	}
	for i, a := range row {
		for j, b := range row {
			if got := value.Order(a, b); sign(got) != sign(i-j) {
				t.Errorf("Order(%s, %s) = %d, want the sign of %d", told(a), told(b), got, sign(i-j))
			}
		}
	}
}

// TestLaws: 3.5, an order, in which 0 is the same; equal both ways; of two numbers, texts or truths just one of less, equal, greater.
func TestLaws(t *testing.T) {
	all := built()
	slices.SortFunc(all, value.Order)
	for i, a := range all {
		for j, b := range all {
			o := value.Order(a, b)
			if (o == 0) != value.Same(a, b) || sign(o) != -sign(value.Order(b, a)) || i < j && o > 0 {
				t.Errorf("%.200s and %.200s: Order %d, the other way %d, Same %t", told(a), told(b), o, value.Order(b, a), value.Same(a, b))
			}
			if value.Equal(a, b) != value.Equal(b, a) {
				t.Errorf("Equal(%.200s, %.200s) is not the same both ways", told(a), told(b))
			}
			if a.Kind != b.Kind || a.Kind != api.KInt && a.Kind != api.KStr && a.Kind != api.KBool {
				continue
			}
			n := 0
			for _, t := range []api.Truth{value.Less(a, b), value.Equal(a, b), value.Less(b, a)} {
				if t == api.True {
					n++
				}
			}
			if n != 1 {
				t.Errorf("%.200s and %.200s: %d of less, equal, greater", told(a), told(b), n)
			}
		}
	}
}

// TestBehind: R3, what lies behind a list's length is not read.
func TestBehind(t *testing.T) {
	one := []api.Value{number(1), number(2)}
	other := []api.Value{number(1), node(3)}
	keys := []string{"x", "a"}
	a, b := list(one[:1]...), list(other[:1]...)
	m := api.Value{Kind: api.KMap, Keys: keys[:1], List: other[:1]}
	if !value.Same(a, b) || value.Equal(a, b) != api.True || value.Order(a, b) != 0 || !value.Plain(b) || value.Parts(b) != 2 {
		t.Error("read behind a list's length")
	}
	if value.Check(m) != api.OK || !value.Plain(m) || value.Equal(m, dict("x", number(1))) != api.True {
		t.Error("read behind a map's length")
	}
	if _, ok := value.Get(m, "a"); ok {
		t.Error("a key behind the length")
	}
	for _, v := range []api.Value{a, m} {
		c := value.Copy(v)
		c.List = append(c.List, text("new"))
		c.Keys = append(c.Keys, "new")
	}
	if one[1].Int != 2 || other[1].Int != 3 || keys[1] != "a" {
		t.Error("written behind a list's length")
	}
}
