// Package sample has the values that the layers' tests are made of: such as may be, such as may not, and how they are told.
package sample

import (
	"math"
	"slices"
	"strconv"
	"strings"

	"wattle/api"
)

// Bool is a truth.
func Bool(b bool) api.Value { return api.Value{Kind: api.KBool, Bool: b} }

// Int is a number.
func Int(n int64) api.Value { return api.Value{Kind: api.KInt, Int: n} }

// Text is a text.
func Text(s string) api.Value { return api.Value{Kind: api.KStr, Str: s} }

// Node is a node.
func Node(id int64) api.Value { return api.Value{Kind: api.KNode, Int: id} }

// Edge is an edge.
func Edge(id int64) api.Value { return api.Value{Kind: api.KEdge, Int: id} }

// List is a list of the values, in the memory in which they are handed in.
func List(l ...api.Value) api.Value { return api.Value{Kind: api.KList, List: l} }

// Dict is a map of keys, parted by blanks, and values, as they are handed in.
func Dict(keys string, l ...api.Value) api.Value {
	return api.Value{Kind: api.KMap, Keys: strings.Fields(keys), List: l}
}

// Nested is v within n lists.
func Nested(n int, v api.Value) api.Value {
	for range n {
		v = List(v)
	}
	return v
}

// Mapped is v within n maps.
func Mapped(n int, v api.Value) api.Value {
	for range n {
		v = Dict("k", v)
	}
	return v
}

// Many is a list of n times v.
func Many(n int, v api.Value) api.Value {
	return List(slices.Repeat([]api.Value{v}, n)...)
}

// Numbered is a map of n keys that rise, each with v.
func Numbered(n int, v api.Value) api.Value {
	m := api.Value{Kind: api.KMap}
	for i := range n {
		m.Keys = append(m.Keys, "k"+strconv.Itoa(1e6 + i)[1:])
		m.List = append(m.List, v)
	}
	return m
}

// Within is a list that holds itself, n times.
func Within(n int) api.Value {
	l := make([]api.Value, n)
	for i := range l {
		l[i] = List(l...)
	}
	return List(l...)
}

// Doubled is a list of twice the same list, and so on, n deep: few lists, and more parts than can be gone over.
func Doubled(n int) api.Value {
	v := List()
	for range n {
		v = List(v, v)
	}
	return v
}

// Scalars is values without others in them, of all kinds, with the ends of each.
func Scalars() []api.Value {
	out := []api.Value{{}, Bool(false), Bool(true)}
	for _, n := range []int64{math.MinInt64, math.MinInt64 + 1, -2, -1, 0, 1, 2, 255, 256, math.MaxInt64 - 1, math.MaxInt64} {
		out = append(out, Int(n))
		if n > 0 {
			out = append(out, Node(n), Edge(n))
		}
	}
	for _, s := range []string{"", "\x00", "\x00\x00", "A", "a", "a\x00", "aa", "ab", "b", "ä", "\xff", "\xff\xfe", strings.Repeat("x", 300)} {
		out = append(out, Text(s))
	}
	return out
}

// Few is some values that others are built of.
func Few() []api.Value {
	return []api.Value{{}, Bool(true), Int(1), Int(2), Text("a"), Node(1), Edge(1), List(), Dict("")}
}

// Built is values of all kinds: scalars, lists and maps of up to two of Few, and such as are nested deeper.
func Built() []api.Value {
	out := append(Scalars(), List(), Dict(""))
	for _, a := range Few() {
		out = append(out, List(a), Dict("x", a), Dict("y", a), List(List(a)), Dict("x", Dict("y", a)), List(a, a, a))
		for _, b := range Few() {
			out = append(out, List(a, b), Dict("x y", a, b), Dict("x z", a, b), List(List(a), b), Dict("x y", List(a), b))
		}
	}
	return append(out, Nested(31, api.Value{}), Nested(31, Int(1)), Nested(30, Int(1)), Many(4095, Int(1)), Many(4094, Int(1)), Numbered(4095, api.Value{}))
}

// Told is a value as a text that no other one has: its own fields, then those of its values.
func Told(v api.Value) string {
	var b strings.Builder
	tell(&b, v)
	return b.String()
}

// tell writes a value's fields, then those of its values.
func tell(b *strings.Builder, v api.Value) {
	b.WriteString(strconv.Itoa(v.Kind) + " " + strconv.FormatBool(v.Bool) + " " + strconv.FormatInt(v.Int, 10) + " " + strconv.Quote(v.Str) + " [")
	for _, k := range v.Keys {
		b.WriteString(strconv.Quote(k))
	}
	b.WriteString("] (")
	for _, x := range v.List {
		tell(b, x)
		b.WriteByte(';')
	}
	b.WriteByte(')')
}

// Spoil writes over all lists of a value, up to their capacity, the innermost first.
func Spoil(v api.Value) {
	for _, x := range v.List {
		Spoil(x)
	}
	l, k := v.List[:cap(v.List)], v.Keys[:cap(v.Keys)]
	for i := range l {
		l[i] = Text("spoilt")
	}
	for i := range k {
		k[i] = "spoilt"
	}
}
