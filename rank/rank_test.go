package rank_test

import (
	"math"
	"math/big"
	"strings"
	"testing"

	"wattle/api"
	"wattle/internal/sample"
	"wattle/rank"
	"wattle/value"
)

var (
	null     = api.Value{}
	boolean  = sample.Bool
	number   = sample.Int
	text     = sample.Text
	node     = sample.Node
	edge     = sample.Edge
	list     = sample.List
	dict     = sample.Dict
	nested   = sample.Nested
	mapped   = sample.Mapped
	many     = sample.Many
	numbered = sample.Numbered
	told     = sample.Told
)

// ended is an ended text, by the chapter's words.
func ended(s string) string {
	var b strings.Builder
	for _, c := range []byte(s) {
		b.WriteByte(c)
		if c == 0x00 {
			b.WriteByte(0xff)
		}
	}
	return b.String() + "\x00\x00"
}

// eight is a number in eight bytes, the highest first.
func eight(n *big.Int) string { return string(n.FillBytes(make([]byte, 8))) }

// written is a value's key, by the chapter's table.
func written(v api.Value) string {
	n := big.NewInt(v.Int)
	switch v.Kind {
	case api.KNode:
		return "\x02" + eight(n)
	case api.KEdge:
		return "\x03" + eight(n)
	case api.KStr:
		return "\x05" + ended(v.Str)
	case api.KBool:
		return map[bool]string{false: "\x06\x00", true: "\x06\x01"}[v.Bool]
	case api.KInt:
		return "\x07" + eight(n.Add(n, new(big.Int).Lsh(big.NewInt(1), 63)))
	case api.KNull:
		return "\x08"
	}
	var b strings.Builder
	b.WriteString(map[int]string{api.KMap: "\x01", api.KList: "\x04"}[v.Kind])
	for i, x := range v.List {
		if v.Kind == api.KMap {
			b.WriteString("\x01" + ended(v.Keys[i]))
		}
		b.WriteString(written(x))
	}
	return b.String() + "\x00"
}

// texts hands f all texts of at most so many bytes of an alphabet.
func texts(alphabet string, most int, f func(s string)) {
	b := make([]byte, 0, most)
	var grow func()
	grow = func() {
		f(string(b))
		if len(b) == most {
			return
		}
		for i := range len(alphabet) {
			b = append(b, alphabet[i])
			grow()
			b = b[:len(b)-1]
		}
	}
	grow()
}

// numbers is numbers at the ends of each count of bits.
func numbers() []int64 {
	out := []int64{0, math.MinInt64, math.MinInt64 + 1, math.MaxInt64, math.MaxInt64 - 1}
	for bit := range 63 {
		for _, beside := range []int64{-1, 0, 1} {
			out = append(out, 1<<bit+beside, -1<<bit+beside)
		}
	}
	return out
}

// values is values of all kinds: such as stand near each other, and such as are at the limits.
func values() []api.Value {
	out := sample.Built()
	for _, n := range numbers() {
		out = append(out, number(n))
		if n > 0 {
			out = append(out, node(n), edge(n))
		}
	}
	texts("\x00\x01\x08a\xff", 3, func(s string) {
		out = append(out, text(s), list(text(s)), list(text(s), null), dict("x y", text(s), dict("")))
		if s != "" {
			out = append(out, keyed([]string{s}, list()), keyed([]string{s, s + "\x00"}, null, null))
		}
	})
	long := strings.Repeat("k", api.MaxName)
	return append(out,
		mapped(31, text("deep")), mapped(31, list()), nested(31, dict("")), nested(31, edge(1)),
		keyed([]string{long[1:] + "\x00"}, null), keyed([]string{long}, null), keyed([]string{strings.Repeat("\x00", api.MaxName)}, null),
		text(strings.Repeat("\x00", 1<<12)), text(strings.Repeat("\xff", 1<<12)), text(strings.Repeat("t", 1<<16)),
		list(many(2000, null), many(2093, list())), numbered(2000, text("\x00")))
}

// keyed is a map of keys of any bytes.
func keyed(keys []string, l ...api.Value) api.Value {
	return api.Value{Kind: api.KMap, Keys: keys, List: l}
}

// TestWritten: 6.1 and 6.2, values and their keys, written out.
func TestWritten(t *testing.T) {
	zeros := strings.Repeat("\x00", 7)
	for _, c := range []struct {
		v api.Value
		s string
	}{
		{null, "\x08"},
		{boolean(false), "\x06\x00"},
		{boolean(true), "\x06\x01"},
		{number(0), "\x07\x80" + zeros},
		{number(1), "\x07\x80" + zeros[1:] + "\x01"},
		{number(-1), "\x07\x7f\xff\xff\xff\xff\xff\xff\xff"},
		{number(-256), "\x07\x7f\xff\xff\xff\xff\xff\xff\x00"},
		{number(0x0102030405060708), "\x07\x81\x02\x03\x04\x05\x06\x07\x08"},
		{number(math.MinInt64), "\x07\x00" + zeros},
		{number(math.MaxInt64), "\x07\xff\xff\xff\xff\xff\xff\xff\xff"},
		{text(""), "\x05\x00\x00"},
		{text("a"), "\x05a\x00\x00"},
		{text("\x00"), "\x05\x00\xff\x00\x00"},
		{text("\x00\x00a"), "\x05\x00\xff\x00\xffa\x00\x00"},
		{text("a\x00\xff\xff"), "\x05a\x00\xff\xff\xff\x00\x00"},
		{text("ä\x01"), "\x05\xc3\xa4\x01\x00\x00"},
		{list(), "\x04\x00"},
		{list(null), "\x04\x08\x00"},
		{list(list(), boolean(true), text("")), "\x04\x04\x00\x06\x01\x05\x00\x00\x00"},
		{dict(""), "\x01\x00"},
		{dict("a", null), "\x01\x01a\x00\x00\x08\x00"},
		{dict("a bc", dict(""), list(null)), "\x01\x01a\x00\x00\x01\x00\x01bc\x00\x00\x04\x08\x00\x00"},
		{keyed([]string{"\x00", "\x00\xff"}, null, null), "\x01\x01\x00\xff\x00\x00\x08\x01\x00\xff\xff\x00\x00\x08\x00"},
		{node(1), "\x02" + zeros + "\x01"},
		{node(math.MaxInt64), "\x02\x7f\xff\xff\xff\xff\xff\xff\xff"},
		{edge(258), "\x03" + zeros[1:] + "\x01\x02"},
		{edge(math.MaxInt64), "\x03\x7f\xff\xff\xff\xff\xff\xff\xff"},
		{nested(31, null), strings.Repeat("\x04", 31) + "\x08" + strings.Repeat("\x00", 31)},
		{mapped(31, null), strings.Repeat("\x01\x01k\x00\x00", 31) + "\x08" + strings.Repeat("\x00", 31)},
		{many(4095, null), "\x04" + strings.Repeat("\x08", 4095) + "\x00"},
	} {
		if s, e := rank.Key(c.v); e != api.OK || s != c.s {
			t.Errorf("Key(%.200s) = %.200x, %d, want %.200x", told(c.v), s, e, c.s)
		}
		if v, e := rank.Back(c.s); e != api.OK || told(v) != told(c.v) {
			t.Errorf("Back(%.200x) = %.200s, %d, want %.200s", c.s, told(v), e, told(c.v))
		}
		if written(c.v) != c.s {
			t.Errorf("the test's own key of %.200s is %.200x, want %.200x", told(c.v), written(c.v), c.s)
		}
	}
}

// TestKey: 6.1, a value's key by the table, of each kind, at each end; 6.3 and P3, Back of it is the value; P2, asked twice.
func TestKey(t *testing.T) {
	for _, v := range values() {
		for range 2 {
			s, e := rank.Key(v)
			if e != api.OK || s != written(v) {
				t.Errorf("Key(%.200s) = %.200x, %d, want %.200x", told(v), s, e, written(v))
			}
			if w, e := rank.Back(s); e != api.OK || told(w) != told(v) {
				t.Errorf("Back(%.200x) = %.200s, %d, want %.200s", s, told(w), e, told(v))
			}
		}
	}
}

// TestKeyWrong: 6.1, ErrArg and no key of what may not be, wherever it stands; P1, also where it has no end.
func TestKeyWrong(t *testing.T) {
	for name, v := range sample.Wrong() {
		for in, x := range map[string]api.Value{"": v, " in a list": list(null, v), " in a map": dict("a b", null, v), " in lists in a map": dict("a", list(list(v)))} {
			if s, e := rank.Key(x); e != api.ErrArg || s != "" {
				t.Errorf("%s%s: Key = %.200x, %d, want %d", name, in, s, e, api.ErrArg)
			}
		}
	}
}

// TestOrder: 6.3, keys stand as the values do, and none is the beginning of another one.
func TestOrder(t *testing.T) {
	all := values()
	keys := make([]string, len(all))
	for i, v := range all {
		keys[i], _ = rank.Key(v)
	}
	for i, a := range all {
		for j, b := range all {
			order := value.Order(a, b)
			if (keys[i] < keys[j]) != (order < 0) || (keys[i] == keys[j]) != (order == 0) {
				t.Fatalf("Key(%.200s) = %.200x, Key(%.200s) = %.200x, but Order is %d", told(a), keys[i], told(b), keys[j], order)
			}
			if order != 0 && strings.HasPrefix(keys[j], keys[i]) {
				t.Fatalf("Key(%.200s) = %.200x is the beginning of Key(%.200s) = %.200x", told(a), keys[i], told(b), keys[j])
			}
		}
	}
}

// TestApart: R3, what is handed in is not changed, what lies behind its length is not read, and no two answers, and no two lists of one, share memory.
func TestApart(t *testing.T) {
	l := []api.Value{list(null, null), keyed([]string{"a", "b", "c"}[:2:2], list(), list()), list(), text("behind")}
	v := list(l[:3]...)
	want := told(v)
	s, e := rank.Key(v)
	if e != api.OK || s != written(v) || told(v) != want || told(l[3]) != told(text("behind")) {
		t.Fatalf("Key(%s) = %x, %d, then %s", want, s, e, told(list(l...)))
	}
	for i := range v.List {
		w, _ := rank.Back(s)
		x, _ := rank.Back(s)
		w.List[i].List = append(w.List[i].List, text("more"))
		w.List[i].Keys = append(w.List[i].Keys, "more")
		sample.Spoil(w.List[i])
		for j := range v.List {
			if j != i && told(w.List[j]) != told(v.List[j]) {
				t.Errorf("list %d is changed with list %d", j, i)
			}
		}
		sample.Spoil(w)
		if told(x) != want || told(v) != want {
			t.Errorf("another answer is changed with list %d", i)
		}
	}
}
