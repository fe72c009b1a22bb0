package num_test

import (
	"math"
	"math/big"
	"testing"

	"wattle/api"
	"wattle/num"
)

const (
	least    = math.MinInt64
	greatest = math.MaxInt64
)

// call is one of the calls that take two numbers.
type call func(a, b int64) (int64, api.Errno)

// reckoned is what a call is asked, and what it has to answer.
type reckoned struct {
	a, b, want int64
	e          api.Errno
}

// hold asks a call, twice (P2), what a table says.
func hold(t *testing.T, name string, f call, table []reckoned) {
	t.Helper()
	for _, c := range table {
		for range 2 {
			if n, e := f(c.a, c.b); n != c.want || e != c.e {
				t.Errorf("%s(%d, %d): %d, %v; asked: %d, %v", name, c.a, c.b, n, e, c.want, c.e)
			}
		}
	}
}

// edges is numbers near those at which something changes: 0, the powers of 2 and 10, the roots of 2^63, both ends.
func edges() []int64 {
	seen := map[int64]bool{}
	var out []int64
	add := func(middle int64) {
		for off := int64(-2); off <= 2; off++ {
			// Past an end this wraps round to the other one, which is an edge, too.
			for _, n := range []int64{middle + off, -(middle + off)} {
				if !seen[n] {
					seen[n] = true
					out = append(out, n)
				}
			}
		}
	}
	add(0)
	add(3037000499) // the greatest number whose square is a number
	add(greatest)
	add(least)
	for shift := 1; shift < 63; shift += 5 {
		add(1 << shift)
	}
	add(1 << 31)
	add(1 << 32)
	add(1 << 62)
	for ten := int64(10); ten <= greatest/10; ten *= 10 {
		add(ten)
	}
	return out
}

// small is the numbers around 0.
func small() []int64 {
	var out []int64
	for n := int64(-40); n <= 40; n++ {
		out = append(out, n)
	}
	return out
}

// against holds a call against what whole numbers without bounds say; nil: there is no answer.
func against(t *testing.T, name string, f call, truth func(a, b *big.Int) *big.Int) {
	t.Helper()
	for _, l := range [][]int64{edges(), small()} {
		for _, a := range l {
			for _, b := range l {
				n, e := f(a, b)
				if !told(truth(big.NewInt(a), big.NewInt(b)), n, e) {
					t.Fatalf("%s(%d, %d): %d, %v", name, a, b, n, e)
				}
			}
		}
	}
}

// told tells whether an answer is that of a number without bounds.
func told(want *big.Int, n int64, e api.Errno) bool {
	if want == nil || !want.IsInt64() {
		return n == 0 && e == api.ErrOverflow
	}
	return n == want.Int64() && e == api.OK
}

// byZero makes a division one that has no answer by 0.
func byZero(f func(a, b *big.Int) *big.Int) func(a, b *big.Int) *big.Int {
	return func(a, b *big.Int) *big.Int {
		if b.Sign() == 0 {
			return nil
		}
		return f(a, b)
	}
}

// TestAdd: 1.1, sums.
func TestAdd(t *testing.T) {
	hold(t, "Add", num.Add, []reckoned{
		{0, 0, 0, api.OK},
		{1, 2, 3, api.OK},
		{5, -7, -2, api.OK},
		{greatest, 0, greatest, api.OK},
		{greatest - 1, 1, greatest, api.OK},
		{greatest, 1, 0, api.ErrOverflow},
		{greatest, greatest, 0, api.ErrOverflow},
		{least, 0, least, api.OK},
		{least + 1, -1, least, api.OK},
		{least, -1, 0, api.ErrOverflow},
		{least, least, 0, api.ErrOverflow},
		{least, greatest, -1, api.OK},
	})
	against(t, "Add", num.Add, func(a, b *big.Int) *big.Int { return a.Add(a, b) })
}

// TestSub: 1.1, differences.
func TestSub(t *testing.T) {
	hold(t, "Sub", num.Sub, []reckoned{
		{0, 0, 0, api.OK},
		{3, 5, -2, api.OK},
		{-3, -5, 2, api.OK},
		{greatest, greatest, 0, api.OK},
		{least, least, 0, api.OK},
		{greatest, -1, 0, api.ErrOverflow},
		{least, 1, 0, api.ErrOverflow},
		{0, least, 0, api.ErrOverflow},
		{-1, least, greatest, api.OK},
		{-1, greatest, least, api.OK},
		{-2, greatest, 0, api.ErrOverflow},
	})
	against(t, "Sub", num.Sub, func(a, b *big.Int) *big.Int { return a.Sub(a, b) })
}

// TestNeg: 1.1, negatives.
func TestNeg(t *testing.T) {
	neg := func(a, _ int64) (int64, api.Errno) { return num.Neg(a) }
	hold(t, "Neg", neg, []reckoned{
		{0, 0, 0, api.OK},
		{5, 0, -5, api.OK},
		{-5, 0, 5, api.OK},
		{greatest, 0, -greatest, api.OK},
		{least + 1, 0, greatest, api.OK},
		{least, 0, 0, api.ErrOverflow},
	})
	against(t, "Neg", neg, func(a, _ *big.Int) *big.Int { return a.Neg(a) })
}

// TestMul: 1.2, products.
func TestMul(t *testing.T) {
	hold(t, "Mul", num.Mul, []reckoned{
		{0, 0, 0, api.OK},
		{6, 7, 42, api.OK},
		{-6, 7, -42, api.OK},
		{6, -7, -42, api.OK},
		{-6, -7, 42, api.OK},
		{0, least, 0, api.OK},
		{least, 0, 0, api.OK},
		{least, 1, least, api.OK},
		{least, -1, 0, api.ErrOverflow},
		{-1, least, 0, api.ErrOverflow},
		{greatest, -1, -greatest, api.OK},
		{greatest, greatest, 0, api.ErrOverflow},
		{least, least, 0, api.ErrOverflow},
		{1 << 62, 2, 0, api.ErrOverflow},
		{1 << 62, -2, least, api.OK},
		{1 << 32, 1 << 32, 0, api.ErrOverflow},
		{1 << 32, -1 << 31, least, api.OK},
		{3037000499, 3037000499, 9223372030926249001, api.OK},
		{3037000500, 3037000500, 0, api.ErrOverflow},
		{-3, 3074457345618258603, 0, api.ErrOverflow}, // -2^63 - 1
		{3, 3074457345618258602, greatest - 1, api.OK},
		{7, 1317624576693539401, greatest, api.OK},
		{1 << 40, 1 << 40, 0, api.ErrOverflow}, // 2^80 wraps round to 0
		{1<<32 + 1, 1 << 32, 0, api.ErrOverflow},
	})
	against(t, "Mul", num.Mul, func(a, b *big.Int) *big.Int { return a.Mul(a, b) })
}

// TestDiv: 1.2, quotients, rounded towards 0.
func TestDiv(t *testing.T) {
	hold(t, "Div", num.Div, []reckoned{
		{7, 2, 3, api.OK},
		{-7, 2, -3, api.OK},
		{7, -2, -3, api.OK},
		{-7, -2, 3, api.OK},
		{1, 2, 0, api.OK},
		{-1, 2, 0, api.OK},
		{0, 5, 0, api.OK},
		{5, 0, 0, api.ErrOverflow},
		{0, 0, 0, api.ErrOverflow},
		{least, 0, 0, api.ErrOverflow},
		{least, -1, 0, api.ErrOverflow},
		{least, 1, least, api.OK},
		{least, least, 1, api.OK},
		{least, 2, -1 << 62, api.OK},
		{greatest, least, 0, api.OK},
		{least, greatest, -1, api.OK},
		{greatest, -1, -greatest, api.OK},
	})
	against(t, "Div", num.Div, byZero(func(a, b *big.Int) *big.Int { return a.Quo(a, b) }))
}

// TestMod: 1.2, what is left, with the sign of what was divided.
func TestMod(t *testing.T) {
	hold(t, "Mod", num.Mod, []reckoned{
		{7, 2, 1, api.OK},
		{-7, 2, -1, api.OK},
		{7, -2, 1, api.OK},
		{-7, -2, -1, api.OK},
		{6, -3, 0, api.OK},
		{-6, 3, 0, api.OK},
		{0, 5, 0, api.OK},
		{5, 0, 0, api.ErrOverflow},
		{0, 0, 0, api.ErrOverflow},
		{least, 0, 0, api.ErrOverflow},
		{least, -1, 0, api.OK},
		{least, 1, 0, api.OK},
		{least, least, 0, api.OK},
		{least, greatest, -1, api.OK},
		{greatest, least, greatest, api.OK},
		{-5, least, -5, api.OK},
	})
	against(t, "Mod", num.Mod, byZero(func(a, b *big.Int) *big.Int { return a.Rem(a, b) }))
}

// TestOrder: 1.4, sums and products hang on no order.
func TestOrder(t *testing.T) {
	for _, f := range []call{num.Add, num.Mul} {
		for _, a := range edges() {
			for _, b := range edges() {
				n, e := f(a, b)
				if m, d := f(b, a); m != n || d != e {
					t.Fatalf("%d and %d: %d, %v; the other way round: %d, %v", a, b, n, e, m, d)
				}
			}
		}
	}
}

// TestDivided: 1.4, Div times b, and Mod, is a.
func TestDivided(t *testing.T) {
	for _, a := range edges() {
		for _, b := range edges() {
			q, e := num.Div(a, b)
			if e != api.OK {
				continue
			}
			m, e := num.Mod(a, b)
			if e != api.OK {
				t.Fatalf("%d by %d: %d, and no rest: %v", a, b, q, e)
			}
			p, e := num.Mul(q, b)
			if e != api.OK {
				t.Fatalf("%d times %d: %v", q, b, e)
			}
			if s, e := num.Add(p, m); s != a || e != api.OK {
				t.Fatalf("%d by %d: %d, rest %d: together %d, %v", a, b, q, m, s, e)
			}
		}
	}
}
