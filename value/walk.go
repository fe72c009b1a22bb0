package value

import (
	"cmp"
	"iter"
	"slices"
	"strings"

	"wattle/api"
	"wattle/logic"
)

// reach is how deep, and over how many parts, a walk may yet go: a value that may not be can hold itself, and each call ends all the same.
type reach struct{ deep, many int }

// allowed is as far as values go that may be.
func allowed() *reach { return &reach{deep: api.MaxDeep, many: api.MaxParts} }

// far is far enough for values that may not be, too: they are walked like others till they are seen to have no end.
func far() *reach { return &reach{deep: 1 << 16, many: 1 << 22} }

// enter goes into a part, and tells whether it may.
func (r *reach) enter() bool {
	if r.deep == 0 || r.many == 0 {
		return false
	}
	r.deep--
	r.many--
	return true
}

// leave goes out of a part.
func (r *reach) leave() { r.deep++ }

// walk shows each part of v, each ahead of those in it, and tells whether all were in reach and see said yes to each; the first no ends it.
func (r *reach) walk(v api.Value, see func(api.Value) bool) bool {
	if !r.enter() || !see(v) {
		return false
	}
	for _, part := range v.List {
		if !r.walk(part, see) {
			return false
		}
	}
	r.leave()
	return true
}

// first is the first of the comparisons that is not 0; those behind it are not made.
func first[T comparable](comparisons iter.Seq[T]) T {
	var none T
	for c := range comparisons {
		if c != none {
			return c
		}
	}
	return none
}

// comparisons is what is held against each other of two values, in the order in which it counts.
func comparisons(a, b api.Value) iter.Seq[int] {
	return func(yield func(int) bool) { far().compare(a, b, yield) }
}

// compare holds all fields of two values against each other, since those that a kind has no use for are zero; it tells whether to go on.
func (r *reach) compare(a, b api.Value, yield func(int) bool) bool {
	if !r.enter() ||
		!yield(cmp.Compare(place(a.Kind), place(b.Kind))) ||
		!yield(cmp.Compare(logic.Of(a.Bool), logic.Of(b.Bool))) ||
		!yield(cmp.Compare(a.Int, b.Int)) ||
		!yield(strings.Compare(a.Str, b.Str)) {
		return false
	}
	keys := min(len(a.Keys), len(b.Keys))
	for i := range min(len(a.List), len(b.List)) {
		if i < keys && !yield(strings.Compare(a.Keys[i], b.Keys[i])) || !r.compare(a.List[i], b.List[i], yield) {
			return false
		}
	}
	r.leave()
	// The keys of a map that may not be can be others where it has no values.
	return yield(slices.Compare(a.Keys, b.Keys)) && yield(cmp.Compare(len(a.List), len(b.List)))
}

// place is where a kind stands; a number that is none stands by itself, beside all of them.
func place(kind int) int {
	if kind < 0 || kind >= len(places) {
		return kind
	}
	return places[kind]
}

// equal is whether two values are equal.
func (r *reach) equal(a, b api.Value) api.Truth {
	if !r.enter() {
		return api.False
	}
	defer r.leave()
	switch {
	case a.Kind == api.KNull || b.Kind == api.KNull:
		return api.Unknown
	case a.Kind != b.Kind:
		return api.False
	case a.Kind != api.KList && a.Kind != api.KMap:
		return logic.Of(Same(a, b))
	case len(a.List) != len(b.List) || !slices.Equal(a.Keys, b.Keys):
		return api.False
	}
	return logic.All(r.equals(a.List, b.List)...)
}

// equals is whether the values at each place of two lists of one length are equal, up to the first that are not: no other one counts beside those.
func (r *reach) equals(a, b []api.Value) []api.Truth {
	var out []api.Truth
	for i := range a {
		t := r.equal(a[i], b[i])
		out = append(out, t)
		if t == api.False {
			break
		}
	}
	return out
}

// copied is a value in new memory.
func (r *reach) copied(v api.Value) api.Value {
	out := v
	out.Keys, out.List = nil, nil
	if len(v.Keys) > 0 {
		out.Keys = make([]string, len(v.Keys))
		copy(out.Keys, v.Keys)
	}
	if len(v.List) > 0 && r.enter() {
		out.List = r.copies(v.List)
		r.leave()
	}
	return out
}

// copies is the values of a list in new memory; none, where they are out of reach.
func (r *reach) copies(l []api.Value) []api.Value {
	if r.many < len(l) {
		return nil
	}
	r.many -= len(l)
	out := make([]api.Value, len(l))
	for i, v := range l {
		out[i] = r.copied(v)
	}
	return out
}
