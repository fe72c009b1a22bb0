package pack_test

import (
	"bytes"
	"math"
	"math/big"
	"strings"
	"testing"

	"wattle/api"
	"wattle/internal/sample"
	"wattle/pack"
)

var (
	null     = api.Value{}
	boolean  = sample.Bool
	number   = sample.Int
	text     = sample.Text
	node     = sample.Node
	edge     = sample.Edge
	list     = sample.List
	dict     = sample.Dict
	nested   = sample.Nested
	mapped   = sample.Mapped
	many     = sample.Many
	numbered = sample.Numbered
	built    = sample.Built
	told     = sample.Told
)

// sevens is a number in sevens, by the digits of its text in base 2.
func sevens(n *big.Int) string {
	digits := n.Text(2)
	var b []byte
	for len(digits) > 7 {
		cut := len(digits) - 7
		low, _ := new(big.Int).SetString(digits[cut:], 2)
		b = append(b, byte(low.Int64())+128)
		digits = digits[:cut]
	}
	last, _ := new(big.Int).SetString(digits, 2)
	return string(append(b, byte(last.Int64())))
}

// count is how many there are, in sevens.
func count(n int) string { return sevens(big.NewInt(int64(n))) }

// written is a value's bytes, by the chapter's table.
func written(v api.Value) string {
	n := big.NewInt(v.Int)
	var b strings.Builder
	switch v.Kind {
	case api.KNull:
		return "\x00"
	case api.KBool:
		return map[bool]string{false: "\x01", true: "\x02"}[v.Bool]
	case api.KInt:
		twice := new(big.Int).Add(n, n)
		if v.Int < 0 {
			twice.Neg(twice).Sub(twice, big.NewInt(1))
		}
		return "\x03" + sevens(twice)
	case api.KStr:
		return "\x04" + count(len(v.Str)) + v.Str
	case api.KNode:
		return "\x07" + sevens(n)
	case api.KEdge:
		return "\x08" + sevens(n)
	case api.KList:
		b.WriteString("\x05")
	case api.KMap:
		b.WriteString("\x06")
	}
	b.WriteString(count(len(v.List)))
	for i, x := range v.List {
		if v.Kind == api.KMap {
			b.WriteString(count(len(v.Keys[i])) + v.Keys[i])
		}
		b.WriteString(written(x))
	}
	return b.String()
}

// numbers is numbers at the ends of each count of sevens, and of 64 bits.
func numbers() []int64 {
	out := []int64{0, math.MinInt64, math.MinInt64 + 1, math.MaxInt64, math.MaxInt64 - 1}
	for bit := range 63 {
		for _, beside := range []int64{-1, 0, 1} {
			out = append(out, 1<<bit+beside, -1<<bit+beside)
		}
	}
	return out
}

// values is values of all kinds, with the ends of what their bytes count.
func values() []api.Value {
	out := built()
	for _, n := range numbers() {
		out = append(out, number(n), list(number(n), null))
		if n > 0 {
			out = append(out, node(n), dict("a b", edge(n), null))
		}
	}
	for _, n := range []int{1, 63, 64, 127, 128, 129, 255, 256, 4094, 1<<14 - 1, 1 << 14, 1 << 17} {
		s := strings.Repeat("\x80\x05", n/2) + strings.Repeat("s", n%2)
		out = append(out, text(s), list(text(s), text("")))
		if n < api.MaxParts {
			out = append(out, many(n, null), numbered(n, null))
		}
		if n <= api.MaxName {
			out = append(out, dict(strings.Repeat("k", n), null))
		}
	}
	return append(out, dict("\x00 \x00\x00 \x01 \x7f \x80 \xff", null, null, null, null, null, null), nested(31, dict("")), mapped(31, list()), mapped(31, text("deep")))
}

// TestEncode: 4.1, a value's bytes by the table, of each kind, at each end.
func TestEncode(t *testing.T) {
	for _, v := range values() {
		if b, e := pack.Encode(v); e != api.OK || string(b) != written(v) {
			t.Errorf("Encode(%.200s) = %.200x, %d, want %.200x", told(v), b, e, written(v))
		}
	}
}

// TestBytes: 4.1 and 4.2, values and their bytes, written out.
func TestBytes(t *testing.T) {
	long, z := strings.Repeat("k", 64), strings.Repeat("z", 300)
	for _, c := range []struct {
		v api.Value
		b string
	}{
		{null, "\x00"},
		{boolean(false), "\x01"},
		{boolean(true), "\x02"},
		{number(0), "\x03\x00"},
		{number(-1), "\x03\x01"},
		{number(1), "\x03\x02"},
		{number(-2), "\x03\x03"},
		{number(-3), "\x03\x05"},
		{number(63), "\x03\x7e"},
		{number(-64), "\x03\x7f"},
		{number(64), "\x03\x80\x01"},
		{number(-65), "\x03\x81\x01"},
		{number(8191), "\x03\xfe\x7f"},
		{number(-8192), "\x03\xff\x7f"},
		{number(8192), "\x03\x80\x80\x01"},
		{number(math.MaxInt64), "\x03\xfe\xff\xff\xff\xff\xff\xff\xff\xff\x01"},
		{number(math.MinInt64), "\x03\xff\xff\xff\xff\xff\xff\xff\xff\xff\x01"},
		{text(""), "\x04\x00"},
		{text("a\x00ä"), "\x04\x04a\x00\xc3\xa4"},
		{text(z[:127]), "\x04\x7f" + z[:127]},
		{text(z[:128]), "\x04\x80\x01" + z[:128]},
		{text(z), "\x04\xac\x02" + z},
		{list(), "\x05\x00"},
		{list(null, boolean(true), number(2)), "\x05\x03\x00\x02\x03\x04"},
		{list(list(list())), "\x05\x01\x05\x01\x05\x00"},
		{many(128, null), "\x05\x80\x01" + strings.Repeat("\x00", 128)},
		{many(4095, boolean(false)), "\x05\xff\x1f" + strings.Repeat("\x01", 4095)},
		{dict(""), "\x06\x00"},
		{dict("a bc", null, text("d")), "\x06\x02\x01a\x00\x02bc\x04\x01d"},
		{dict(long, dict("")), "\x06\x01\x40" + long + "\x06\x00"},
		{nested(31, null), strings.Repeat("\x05\x01", 31) + "\x00"},
		{mapped(31, list()), strings.Repeat("\x06\x01\x01k", 31) + "\x05\x00"},
		{node(1), "\x07\x01"},
		{node(128), "\x07\x80\x01"},
		{node(math.MaxInt64), "\x07\xff\xff\xff\xff\xff\xff\xff\xff\x7f"},
		{edge(127), "\x08\x7f"},
		{edge(math.MaxInt64), "\x08\xff\xff\xff\xff\xff\xff\xff\xff\x7f"},
	} {
		if b, e := pack.Encode(c.v); e != api.OK || string(b) != c.b {
			t.Errorf("Encode(%.200s) = %.200x, %d, want %.200x", told(c.v), b, e, c.b)
		}
		if v, n, e := pack.Decode([]byte(c.b)); e != api.OK || n != len(c.b) || told(v) != told(c.v) {
			t.Errorf("Decode(%.200x) = %.200s, %d, %d, want %.200s, %d", c.b, told(v), n, e, told(c.v), len(c.b))
		}
	}
}

// TestEncodeWrong: 4.1, ErrArg and no bytes of what may not be, wherever it stands; P1, also where it has no end.
func TestEncodeWrong(t *testing.T) {
	for name, v := range sample.Wrong() {
		for in, x := range map[string]api.Value{"": v, " in a list": list(null, v), " in a map": dict("a b", null, v), " in lists in a map": dict("a", list(list(v)))} {
			if b, e := pack.Encode(x); e != api.ErrArg || len(b) > 0 {
				t.Errorf("%s%s: Encode = %.200x, %d, want %d", name, in, b, e, api.ErrArg)
			}
		}
	}
}

// TestThereAndBack: 4.3, P3, whatever stands behind; and of what is cut off anywhere ErrMore.
func TestThereAndBack(t *testing.T) {
	for _, v := range values() {
		b, e := pack.Encode(v)
		if e != api.OK {
			t.Fatalf("Encode(%.200s): %d", told(v), e)
		}
		for _, behind := range []string{"", "\x00", "\x01", "\x7f", "\x80", "\xff\xff", "\x05\x02", "\x09", string(b)} {
			got, n, e := pack.Decode([]byte(string(b) + behind))
			if e != api.OK || n != len(b) || told(got) != told(v) {
				t.Errorf("Decode(%.200x, then %.200x) = %.200s, %d, %d, want %.200s, %d", b, behind, told(got), n, e, told(v), len(b))
			}
		}
		for cut := range places(len(b)) {
			if got, n, e := pack.Decode(b[:cut:cut]); e != api.ErrMore || n != 0 || told(got) != told(null) {
				t.Errorf("Decode(%.200x, of %d bytes) = %.200s, %d, %d, want null, 0, %d", b[:cut], len(b), told(got), n, e, api.ErrMore)
			}
			if _, _, e := pack.Decode(b[:cut]); e != api.ErrMore {
				t.Errorf("Decode(%.200x), more behind its length: %d, want %d", b[:cut], e, api.ErrMore)
			}
		}
	}
}

// places goes over the places ahead of n: all of the first and last hundred, some of the others.
func places(n int) func(func(int) bool) {
	return func(yield func(int) bool) {
		for at := 0; at < n; at++ {
			if (at < 100 || at >= n-100 || at%997 == 0) && !yield(at) {
				return
			}
		}
	}
}

// TestApart: R3, what is handed in is not changed, and no answer shares memory with it or with another one; P2, asked twice.
func TestApart(t *testing.T) {
	for _, v := range values() {
		want := told(v)
		b, _ := pack.Encode(v)
		first := bytes.Clone(b)
		again, _ := pack.Encode(v)
		w, _, _ := pack.Decode(b)
		x, _, _ := pack.Decode(b)
		if !bytes.Equal(b, first) || !bytes.Equal(again, first) || told(w) != want || told(x) != want || told(v) != want {
			t.Fatalf("%.200s: not alike when asked twice, or changed", want)
		}
		sample.Spoil(w)
		for i := range b[:cap(b)] {
			b[:cap(b)][i] = 0xaa
		}
		if told(v) != want || told(x) != want || !bytes.Equal(again, first) {
			t.Fatalf("%.200s: memory is shared", want)
		}
	}
}

// TestListsApart: R3, no two lists of one answer share memory.
func TestListsApart(t *testing.T) {
	v := list(list(null, null), list(null, null, null), dict("a b", null, null), dict("a b", list(), list()), list())
	b, _ := pack.Encode(v)
	for i := range v.List {
		w, _, _ := pack.Decode(b)
		w.List[i].List = append(w.List[i].List, text("more"))
		w.List[i].Keys = append(w.List[i].Keys, "more")
		sample.Spoil(w.List[i])
		for j := range v.List {
			if j != i && told(w.List[j]) != told(v.List[j]) {
				t.Errorf("list %d is changed with list %d", j, i)
			}
		}
	}
}
