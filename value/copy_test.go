package value_test

import (
	"slices"
	"strings"
	"testing"

	"wattle/api"
	"wattle/internal/sample"
	"wattle/value"
)

// TestCopy: 3.4, the same, in memory that is neither the argument's nor another copy's.
func TestCopy(t *testing.T) {
	for _, v := range built() {
		want := told(v)
		c, d := value.Copy(v), value.Copy(v)
		if told(c) != want {
			t.Fatalf("Copy(%.200s) = %.200s", want, told(c))
		}
		sample.Spoil(c)
		if told(v) != want || told(d) != want {
			t.Fatalf("Copy(%.200s) shares memory", want)
		}
	}
}

// TestCopyApart: 3.4, no two lists of one copy share memory, though those of the argument do.
func TestCopyApart(t *testing.T) {
	l := []api.Value{number(1), number(2), list(number(3)), number(4)}
	keys := []string{"a", "b"}
	v := list(list(l[:2]...), list(l[1:]...), list(l...), api.Value{Kind: api.KMap, Keys: keys, List: l[:2]}, api.Value{Kind: api.KMap, Keys: keys, List: l[:2]})
	want := told(v)
	for i := range v.List {
		c := value.Copy(v)
		if told(c) != want {
			t.Fatalf("Copy = %s, want %s", told(c), want)
		}
		c.List[i].List = append(c.List[i].List, text("more"))
		sample.Spoil(c.List[i])
		for j := range v.List {
			if j != i && told(c.List[j]) != told(v.List[j]) {
				t.Errorf("list %d is changed with list %d", j, i)
			}
		}
	}
	if told(v) != want {
		t.Error("the argument is changed")
	}
}

// TestMap: 3.4, the names in order, each with its value.
func TestMap(t *testing.T) {
	long := strings.Repeat("k", api.MaxName)
	for _, c := range []struct {
		names []string
		vals  []api.Value
		want  api.Value
	}{
		{nil, nil, dict("")},
		{[]string{}, []api.Value{}, dict("")},
		{[]string{"x"}, []api.Value{null}, dict("x", null)},
		{[]string{"y", "x"}, []api.Value{number(1), number(2)}, dict("x y", number(2), number(1))},
		{[]string{"x", "y"}, []api.Value{number(1), number(2)}, dict("x y", number(1), number(2))},
		{[]string{"b", "a", "B", "aa"}, []api.Value{number(1), number(2), number(3), number(4)}, dict("B a aa b", number(3), number(2), number(4), number(1))},
		{[]string{"\xff", "ä", "z"}, []api.Value{number(1), number(2), number(3)}, dict("z ä \xff", number(3), number(2), number(1))},
		{[]string{long}, []api.Value{node(1)}, dict(long, node(1))},
		{[]string{"x"}, []api.Value{nested(30, null)}, dict("x", nested(30, null))},
		{[]string{"x"}, []api.Value{many(4094, null)}, dict("x", many(4094, null))},
	} {
		got, e := value.Map(c.names, c.vals)
		if e != api.OK || told(got) != told(c.want) {
			t.Errorf("Map(%q) = %.200s, %d, want %.200s", c.names, told(got), e, told(c.want))
		}
	}
}

// TestMapOrders: 3.4, all orders in which four names can be handed in give one map; the arguments are not changed.
func TestMapOrders(t *testing.T) {
	names := []string{"a", "b", "c", "d"}
	for code := range 4 * 4 * 4 * 4 {
		at := []int{code & 3, code >> 2 & 3, code >> 4 & 3, code >> 6}
		var n []string
		var v []api.Value
		for _, i := range at {
			n, v = append(n, names[i]), append(v, list(number(int64(i))))
		}
		n0, v0 := slices.Clone(n), told(list(v...))
		m, e := value.Map(n, v)
		slices.Sort(at)
		if len(slices.Compact(at)) < 4 {
			if e != api.ErrArg || told(m) != told(null) {
				t.Errorf("Map(%q) = %s, %d, want null, %d", n, told(m), e, api.ErrArg)
			}
			continue
		}
		if want := dict("a b c d", list(number(0)), list(number(1)), list(number(2)), list(number(3))); e != api.OK || told(m) != told(want) {
			t.Errorf("Map(%q) = %s, %d", n, told(m), e)
		}
		sample.Spoil(m)
		if !slices.Equal(n, n0) || told(list(v...)) != v0 {
			t.Errorf("Map(%q): the arguments are changed", n0)
		}
	}
}

// TestMapWrong: 3.4, ErrArg and no map.
func TestMapWrong(t *testing.T) {
	big := numbered(4096, null)
	for name, c := range map[string]struct {
		names []string
		vals  []api.Value
	}{
		"a name twice":         {[]string{"x", "x"}, []api.Value{number(1), number(2)}},
		"a name twice, alike":  {[]string{"x", "x"}, []api.Value{number(1), number(1)}},
		"a name twice, apart":  {[]string{"x", "a", "x"}, []api.Value{null, null, null}},
		"more names":           {[]string{"x", "y"}, []api.Value{null}},
		"more values":          {[]string{"x"}, []api.Value{null, null}},
		"names alone":          {[]string{"x"}, nil},
		"values alone":         {nil, []api.Value{null}},
		"an empty name":        {[]string{""}, []api.Value{null}},
		"a name of 65 bytes":   {[]string{strings.Repeat("k", api.MaxName+1)}, []api.Value{null}},
		"a value of no kind":   {[]string{"x"}, []api.Value{{Kind: 9}}},
		"node 0":               {[]string{"x", "y"}, []api.Value{null, node(0)}},
		"33 deep":              {[]string{"x"}, []api.Value{nested(31, null)}},
		"4097 parts":           {[]string{"x"}, []api.Value{many(4095, null)}},
		"4096 names":           {big.Keys, big.List},
		"a map that may not":   {[]string{"x"}, []api.Value{dict("b a", null, null)}},
		"a field too much":     {[]string{"x"}, []api.Value{{Kind: api.KNull, Int: 1}}},
		"a value in itself":    {[]string{"x"}, []api.Value{sample.Within(2)}},
		"lists twice, 60 deep": {[]string{"x"}, []api.Value{sample.Doubled(60)}},
	} {
		if m, e := value.Map(c.names, c.vals); e != api.ErrArg || told(m) != told(null) {
			t.Errorf("%s: Map = %.200s, %d, want null, %d", name, told(m), e, api.ErrArg)
		}
	}
}

// TestGet: 3.4, each key's value; null and false of what is no map, and of another key.
func TestGet(t *testing.T) {
	m := dict("a b bb c", null, list(number(1)), boolean(false), dict("x", node(2)))
	for i, k := range m.Keys {
		if got, ok := value.Get(m, k); !ok || told(got) != told(m.List[i]) {
			t.Errorf("Get(%q) = %s, %t", k, told(got), ok)
		}
	}
	for _, k := range []string{"", "A", "aa", "ab", "ba", "bbb", "cc", "x", "\xff", strings.Repeat("a", 100)} {
		if got, ok := value.Get(m, k); ok || told(got) != told(null) {
			t.Errorf("Get(%q) = %s, %t, want null, false", k, told(got), ok)
		}
	}
	for _, v := range append(sample.Scalars(), list(), list(m), dict("")) {
		if got, ok := value.Get(v, "a"); ok || told(got) != told(null) {
			t.Errorf("Get(%.200s) = %s, %t, want null, false", told(v), told(got), ok)
		}
	}
	big := numbered(4095, null)
	for i, k := range big.Keys {
		big.List[i] = number(int64(i))
		if got, ok := value.Get(big, k); !ok || got.Int != int64(i) || got.Kind != api.KInt {
			t.Errorf("Get(%q) = %s, %t", k, told(got), ok)
		}
	}
}

// TestGetNew: R3, what Get and Map answer shares no memory with what is handed in.
func TestGetNew(t *testing.T) {
	names, vals := []string{"b", "a"}, []api.Value{list(list(number(1))), dict("x", list(null))}
	m, e := value.Map(names, vals)
	want := told(m)
	if e != api.OK || want != told(dict("a b", vals[1], vals[0])) {
		t.Fatalf("Map = %s, %d", want, e)
	}
	for _, k := range names {
		v, _ := value.Get(m, k)
		sample.Spoil(v)
	}
	if told(m) != want {
		t.Error("Get's answer shares memory with the map")
	}
	sample.Spoil(list(vals...))
	names[0] = "spoilt"
	if told(m) != want {
		t.Error("Map's answer shares memory with its arguments")
	}
}
