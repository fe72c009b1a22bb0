package sample

import (
	"maps"
	"math"
	"strconv"
	"strings"

	"wattle/api"
)

// Wrong is values that may not be, by what is wrong with them.
func Wrong() map[string]api.Value {
	out := unkind()
	maps.Copy(out, keyed())
	maps.Copy(out, big())
	maps.Copy(out, strayed())
	return out
}

// unkind is values of no kind, and nodes and edges of no number.
func unkind() map[string]api.Value {
	out := map[string]api.Value{
		"node 0":         Node(0),
		"node -1":        Node(-1),
		"the least node": Node(math.MinInt64),
		"edge 0":         Edge(0),
		"edge -1":        Edge(-1),
		"the least edge": Edge(math.MinInt64),
	}
	for _, kind := range []int{-1, 8, 9, 255, 256, 258, math.MinInt, math.MaxInt, 1 << 32, 1<<32 + api.KInt} {
		name := "kind " + strconv.Itoa(kind)
		out[name] = api.Value{Kind: kind}
		out[name+" with all"] = api.Value{Kind: kind, Bool: true, Int: 1, Str: "x", Keys: []string{"x"}, List: []api.Value{{}}}
	}
	return out
}

// keyed is maps whose keys may not be.
func keyed() map[string]api.Value {
	null := api.Value{}
	return map[string]api.Value{
		"more keys than values":       Dict("x y", null),
		"more values than keys":       Dict("x", null, null),
		"keys, and no value":          Dict("x"),
		"a value, and no key":         Dict("", null),
		"keys that fall":              Dict("y x", null, null),
		"a key twice":                 Dict("x x", null, null),
		"a key twice, the last":       Dict("w x x", null, null, null),
		"keys that fall at the end":   Dict("a c b", null, null, null),
		"keys byte by byte":           Dict("a B", null, null),
		"keys that fall, by bytes":    Dict("\xff ä", null, null),
		"an empty key":                {Kind: api.KMap, Keys: []string{""}, List: []api.Value{null}},
		"an empty key among others":   {Kind: api.KMap, Keys: []string{"", "a"}, List: []api.Value{null, null}},
		"a key of 65 bytes":           Dict(strings.Repeat("k", api.MaxName+1), null),
		"a key of 65 bytes, 33 signs": Dict("k"+strings.Repeat("ä", 32), null),
	}
}

// big is values that are nested deeper, or have more parts, than may be; some without an end.
func big() map[string]api.Value {
	null := api.Value{}
	return map[string]api.Value{
		"33 deep":                    Nested(32, null),
		"33 deep, lists alone":       Nested(32, List()),
		"33 deep, maps":              Mapped(32, null),
		"33 deep, a map and lists":   Dict("k", Nested(31, null)),
		"33 deep, at the last place": List(null, null, Nested(31, null)),
		"2^16 deep":                  Nested(1<<16-1, null),
		"4097 parts":                 Many(4096, null),
		"4097 parts, in a map":       Numbered(4096, null),
		"4097 parts, in 2 lists":     List(Many(2000, null), Many(2094, null)),
		"4097 parts, in 2 maps":      List(Numbered(2000, null), Numbered(2094, null)),
		"2^20 parts":                 Many(1<<20-1, null),
		"itself in it":               Within(1),
		"itself in it, thrice":       Within(3),
		"itself in it, 2^12 times":   Within(1 << 12),
		"lists twice, 12 deep":       Doubled(12),
		"lists twice, 31 deep":       Doubled(31),
		"lists twice, 60 deep":       Doubled(60),
	}
}

// strayed is values of each kind with a field that their kind has no use for.
func strayed() map[string]api.Value {
	out := map[string]api.Value{}
	for _, v := range Few() {
		b, n, m, s, l, k := v, v, v, v, v, v
		b.Bool, n.Int, m.Int, s.Str = true, 1, -1, "a"
		l.List, k.Keys = []api.Value{{}}, []string{"x"}
		name := Told(v) + ", with "
		if v.Kind != api.KBool {
			out[name+"Bool"] = b
		}
		if v.Kind != api.KInt && v.Kind != api.KNode && v.Kind != api.KEdge {
			out[name+"Int 1"], out[name+"Int -1"] = n, m
		}
		if v.Kind != api.KStr {
			out[name+"Str"] = s
		}
		if v.Kind != api.KList {
			out[name+"List"] = l
		}
		out[name+"Keys"] = k
	}
	return out
}
