package logic_test

import (
	"math"
	"slices"
	"testing"

	"wattle/api"
	"wattle/logic"
)

const (
	no      = api.False
	yes     = api.True
	unknown = api.Unknown
)

// three is the truths.
func three() []api.Truth { return []api.Truth{no, yes, unknown} }

// odd is numbers of the type that are no truth: next to them, at both ends, and such as are one in fewer bits.
func odd() []api.Truth {
	return []api.Truth{
		-1, -2, -3, 3, 4, 5, 7, 127, 128, 255, 256, 257, 258, -255, -256, 1 << 16, 1<<16 + 1,
		math.MaxInt32, math.MinInt32, math.MaxInt, math.MaxInt - 1, math.MinInt, math.MinInt + 1,
	}
}

// every is the truths, and what counts as one.
func every() []api.Truth { return append(three(), odd()...) }

// counted is what a number counts as.
func counted(t api.Truth) api.Truth {
	switch t {
	case no, yes:
		return t
	}
	return unknown
}

// lists is all lists of up to n of some truths.
func lists(n int, of []api.Truth) [][]api.Truth {
	out := [][]api.Truth{{}}
	last := out
	for range n {
		var longer [][]api.Truth
		for _, l := range last {
			for _, t := range of {
				longer = append(longer, append(slices.Clone(l), t))
			}
		}
		out = append(out, longer...)
		last = longer
	}
	return out
}

// ahead is the first of the truths of order that stands in l, all counted; of none it is what is told of none.
func ahead(l []api.Truth, none api.Truth, order ...api.Truth) api.Truth {
	for _, t := range order {
		for _, u := range l {
			if counted(u) == t {
				return t
			}
		}
	}
	return none
}

// all and anyOf are 2.3's words, which are 2.2's of two.
func all(l ...api.Truth) api.Truth   { return ahead(l, yes, no, unknown, yes) }
func anyOf(l ...api.Truth) api.Truth { return ahead(l, no, yes, unknown, no) }

// xor is 2.2's words.
func xor(a, b api.Truth) api.Truth {
	a, b = counted(a), counted(b)
	if a == unknown || b == unknown {
		return unknown
	}
	if (a == yes) != (b == yes) {
		return yes
	}
	return no
}

// pairs is the calls of two truths, and what they have to answer.
func pairs() []struct {
	name    string
	f, want func(a, b api.Truth) api.Truth
} {
	return []struct {
		name    string
		f, want func(a, b api.Truth) api.Truth
	}{
		{"And", logic.And, func(a, b api.Truth) api.Truth { return all(a, b) }},
		{"Or", logic.Or, func(a, b api.Truth) api.Truth { return anyOf(a, b) }},
		{"Xor", logic.Xor, xor},
	}
}

// TestOf: 2.1, truths of bools.
func TestOf(t *testing.T) {
	if v := logic.Of(true); v != yes {
		t.Errorf("Of(true): %d", v)
	}
	if v := logic.Of(false); v != no {
		t.Errorf("Of(false): %d", v)
	}
}

// TestIs: 2.1, True is the only one that is.
func TestIs(t *testing.T) {
	for _, v := range every() {
		if logic.Is(v) != (v == yes) {
			t.Errorf("Is(%d): %v", v, logic.Is(v))
		}
	}
	for _, b := range []bool{false, true} {
		if logic.Is(logic.Of(b)) != b {
			t.Errorf("Is of Of(%v): %v", b, !b)
		}
	}
}

// TestNot: 2.1, opposites; what is no truth has Unknown's.
func TestNot(t *testing.T) {
	for v, want := range map[api.Truth]api.Truth{no: yes, yes: no, unknown: unknown} {
		if n := logic.Not(v); n != want {
			t.Errorf("Not(%d): %d; asked: %d", v, n, want)
		}
	}
	for _, v := range odd() {
		if n := logic.Not(v); n != unknown {
			t.Errorf("Not(%d): %d; asked: Unknown", v, n)
		}
	}
}

// TestTables: 2.2, And, Or and Xor of the truths, written out.
func TestTables(t *testing.T) {
	for _, c := range []struct{ a, b, and, or, xor api.Truth }{
		{no, no, no, no, no},
		{no, yes, no, yes, yes},
		{no, unknown, no, unknown, unknown},
		{yes, no, no, yes, yes},
		{yes, yes, yes, yes, no},
		{yes, unknown, unknown, yes, unknown},
		{unknown, no, no, unknown, unknown},
		{unknown, yes, unknown, yes, unknown},
		{unknown, unknown, unknown, unknown, unknown},
	} {
		for range 2 { // P2: the second time alike
			if v := logic.And(c.a, c.b); v != c.and {
				t.Errorf("And(%d, %d): %d; asked: %d", c.a, c.b, v, c.and)
			}
			if v := logic.Or(c.a, c.b); v != c.or {
				t.Errorf("Or(%d, %d): %d; asked: %d", c.a, c.b, v, c.or)
			}
			if v := logic.Xor(c.a, c.b); v != c.xor {
				t.Errorf("Xor(%d, %d): %d; asked: %d", c.a, c.b, v, c.xor)
			}
		}
	}
}

// TestPairs: 2.2, of all numbers, those that are no truth, too: they count as Unknown, and are never told.
func TestPairs(t *testing.T) {
	for _, p := range pairs() {
		for _, a := range every() {
			for _, b := range every() {
				if v := p.f(a, b); v != p.want(a, b) {
					t.Errorf("%s(%d, %d): %d; asked: %d", p.name, a, b, v, p.want(a, b))
				}
			}
		}
	}
}

// TestMany: 2.3, All and Any of all short lists, and of none.
func TestMany(t *testing.T) {
	if v := logic.All(); v != yes {
		t.Errorf("All of none: %d", v)
	}
	if v := logic.Any(); v != no {
		t.Errorf("Any of none: %d", v)
	}
	var none []api.Truth
	if logic.All(none...) != yes || logic.Any(none...) != no {
		t.Errorf("of a list that is nil: %d, %d", logic.All(none...), logic.Any(none...))
	}
	for _, l := range append(lists(6, three()), lists(3, []api.Truth{no, yes, unknown, 3, -1, math.MinInt})...) {
		if v := logic.All(l...); v != all(l...) {
			t.Errorf("All of %d: %d; asked: %d", l, v, all(l...))
		}
		if v := logic.Any(l...); v != anyOf(l...) {
			t.Errorf("Any of %d: %d; asked: %d", l, v, anyOf(l...))
		}
	}
	for _, v := range every() {
		if logic.All(v) != counted(v) || logic.Any(v) != counted(v) {
			t.Errorf("of %d alone: %d, %d; asked: %d", v, logic.All(v), logic.Any(v), counted(v))
		}
	}
}

// TestLong: 2.3, one truth anywhere among a great many others.
func TestLong(t *testing.T) {
	const many = 5000
	for _, most := range three() {
		for _, one := range every() {
			for _, at := range []int{0, 1, many / 2, many - 2, many - 1} {
				l := slices.Repeat([]api.Truth{most}, many)
				l[at] = one
				if v := logic.All(l...); v != all(l...) {
					t.Errorf("All of %d but %d at %d: %d", most, one, at, v)
				}
				if v := logic.Any(l...); v != anyOf(l...) {
					t.Errorf("Any of %d but %d at %d: %d", most, one, at, v)
				}
			}
		}
	}
}

// TestHandedIn: R3, a list that is handed in stays as it is, and what lies behind its length is not read.
func TestHandedIn(t *testing.T) {
	behind := []api.Truth{yes, 7, no, -1, yes}
	kept := slices.Clone(behind)
	if v := logic.All(behind[:2]...); v != unknown {
		t.Errorf("All of the first two: %d", v)
	}
	if v := logic.Any(behind[2:4]...); v != unknown {
		t.Errorf("Any of the two in the middle: %d", v)
	}
	if v := logic.Any(behind[:0]...); v != no {
		t.Errorf("Any of none of them: %d", v)
	}
	if !slices.Equal(behind, kept) {
		t.Errorf("the list was changed: %d", behind)
	}
}

// TestOpposites: 2.4, Not of And is Or of Nots, and the other way round.
func TestOpposites(t *testing.T) {
	for _, a := range every() {
		for _, b := range every() {
			if l, r := logic.Not(logic.And(a, b)), logic.Or(logic.Not(a), logic.Not(b)); l != r {
				t.Errorf("Not of And(%d, %d): %d; Or of Nots: %d", a, b, l, r)
			}
			if l, r := logic.Not(logic.Or(a, b)), logic.And(logic.Not(a), logic.Not(b)); l != r {
				t.Errorf("Not of Or(%d, %d): %d; And of Nots: %d", a, b, l, r)
			}
		}
	}
}

// TestOrder: 2.4, And, Or and Xor hang on no order, of two or of three.
func TestOrder(t *testing.T) {
	for _, p := range pairs() {
		for _, a := range every() {
			for _, b := range every() {
				if p.f(a, b) != p.f(b, a) {
					t.Errorf("%s of %d and %d: %d; the other way round: %d", p.name, a, b, p.f(a, b), p.f(b, a))
				}
				for _, c := range three() {
					if p.f(p.f(a, b), c) != p.f(a, p.f(b, c)) {
						t.Errorf("%s of %d, %d and %d hangs on which come first", p.name, a, b, c)
					}
				}
			}
		}
	}
}

// TestInSpite: 2.4, what And or Or tells in spite of an Unknown it tells whatever stands in its place.
func TestInSpite(t *testing.T) {
	for _, p := range pairs()[:2] {
		for _, a := range every() {
			for _, hidden := range append(odd(), unknown) {
				v := p.f(a, hidden)
				if v == unknown {
					continue
				}
				for _, b := range every() {
					if p.f(a, b) != v || p.f(b, a) != v {
						t.Errorf("%s(%d, %d) is %d, but with %d it is %d", p.name, a, hidden, v, b, p.f(a, b))
					}
				}
			}
		}
	}
	if logic.And(no, unknown) != no || logic.Or(yes, unknown) != yes {
		t.Error("nothing is told in spite of an Unknown")
	}
}
