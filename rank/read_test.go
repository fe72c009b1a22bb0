package rank_test

import (
	"math/big"
	"strings"
	"testing"

	"wattle/api"
	"wattle/rank"
	"wattle/value"
)

// page is a text that is read by the chapter's table, one byte behind the other; wrong, once it is no key.
type page struct {
	s     string
	at    int
	wrong bool
}

// next is the next byte, or 0.
func (p *page) next() byte {
	if p.wrong = p.wrong || p.at == len(p.s); p.wrong {
		return 0
	}
	p.at++
	return p.s[p.at-1]
}

// ended is what the next ended text is of.
func (p *page) ended() string {
	var b []byte
	for !p.wrong {
		c := p.next()
		if c == 0 {
			switch p.next() {
			case 0x00:
				return string(b)
			case 0xff:
			default:
				p.wrong = true
			}
		}
		b = append(b, c)
	}
	return ""
}

// eight is the number of the next eight bytes, less some.
func (p *page) eight(less *big.Int) int64 {
	var b []byte
	for range 8 {
		b = append(b, p.next())
	}
	n := new(big.Int).SetBytes(b)
	n.Sub(n, less)
	p.wrong = p.wrong || !n.IsInt64()
	return n.Int64()
}

// value is the next value, at that depth. How many parts it has is asked when it is there.
func (p *page) value(deep int) (v api.Value) {
	tag := p.next()
	if p.wrong = p.wrong || tag < 1 || tag > 8 || deep > 32; p.wrong {
		return null
	}
	v.Kind = []int{api.KMap, api.KNode, api.KEdge, api.KList, api.KStr, api.KBool, api.KInt, api.KNull}[tag-1]
	switch v.Kind {
	case api.KNode, api.KEdge:
		v.Int = p.eight(new(big.Int))
	case api.KStr:
		v.Str = p.ended()
	case api.KBool:
		c := p.next()
		v.Bool, p.wrong = c == 1, p.wrong || c > 1
	case api.KInt:
		v.Int = p.eight(new(big.Int).Lsh(big.NewInt(1), 63))
	case api.KMap, api.KList:
		p.parts(&v, deep)
	}
	return v
}

// parts is the values of a list or a map at that depth, up to its end.
func (p *page) parts(v *api.Value, deep int) {
	for !p.wrong {
		if strings.HasPrefix(p.s[p.at:], "\x00") {
			p.at++
			return
		}
		if v.Kind == api.KMap {
			p.wrong = p.next() != 1 || p.wrong
			v.Keys = append(v.Keys, p.ended())
		}
		v.List = append(v.List, p.value(deep+1))
	}
}

// read is what Back is to answer.
func read(s string) (api.Value, api.Errno) {
	p := page{s: s}
	v := p.value(1)
	if p.wrong || p.at < len(s) || value.Check(v) != api.OK {
		return null, api.ErrSyntax
	}
	return v, api.OK
}

// check holds Back against read, and against Key.
func check(t *testing.T, s string) {
	want, wrong := read(s)
	got, e := rank.Back(s)
	if e != wrong || told(got) != told(want) {
		t.Errorf("Back(%.200x) = %.200s, %d, want %.200s, %d", s, told(got), e, told(want), wrong)
	}
	if e != api.OK {
		return
	}
	if again, e := rank.Key(got); e != api.OK || again != s {
		t.Errorf("Key of Back(%.200x) = %.200x, %d", s, again, e)
	}
}

// short is the values whose keys have just n bytes, all of them of the alphabet (or 00, FF and the tags).
func short(n int, alphabet string) []api.Value {
	var out []api.Value
	if n == 1 {
		out = append(out, null)
	}
	if n == 2 {
		out = append(out, boolean(false), boolean(true))
	}
	texts(alphabet, max(0, n-3), func(s string) {
		if len(ended(s))+1 == n {
			out = append(out, text(s))
		}
	})
	if n < 2 {
		return out
	}
	for _, l := range lists(n-2, alphabet) {
		out = append(out, list(l...))
	}
	return append(out, maps(n-2, alphabet, "")...)
}

// lists is all rows of values whose keys have n bytes together.
func lists(n int, alphabet string) [][]api.Value {
	if n == 0 {
		return [][]api.Value{nil}
	}
	var out [][]api.Value
	for size := 1; size <= n; size++ {
		for _, v := range short(size, alphabet) {
			for _, rest := range lists(n-size, alphabet) {
				out = append(out, append([]api.Value{v}, rest...))
			}
		}
	}
	return out
}

// maps is all maps whose keys, each above the one ahead, and values have n bytes together.
func maps(n int, alphabet, ahead string) []api.Value {
	if n == 0 {
		return []api.Value{dict("")}
	}
	var out []api.Value
	texts(alphabet, max(0, n-4), func(key string) {
		room := n - 1 - len(ended(key))
		if key <= ahead || room < 1 {
			return
		}
		for size := 1; size <= room; size++ {
			for _, v := range short(size, alphabet) {
				for _, rest := range maps(room-size, alphabet, key) {
					out = append(out, keyed(append([]string{key}, rest.Keys...), append([]api.Value{v}, rest.List...)...))
				}
			}
		}
	})
	return out
}

// TestAll: 6.2, of all short texts of some bytes just those are read that are a value's key, each as that value.
func TestAll(t *testing.T) {
	for _, c := range []struct {
		alphabet string
		most     int
	}{
		{"\x00\x01\x02\x03\x04\x05\x06\x07\x08\x09a\xff", 5},
		{"\x00\x01\x04\x05\x08\xff", 7},
		{"\x00\x01\x08", 12},
	} {
		keys := map[string]string{}
		for n := 1; n <= c.most; n++ {
			for _, v := range short(n, c.alphabet) {
				keys[written(v)] = told(v)
			}
		}
		texts(c.alphabet, c.most, func(s string) {
			v, e := rank.Back(s)
			want, ok := keys[s]
			if ok && (e != api.OK || told(v) != want) {
				t.Errorf("Back(%x) = %s, %d, want %s", s, told(v), e, want)
			}
			if !ok && (e != api.ErrSyntax || v.Kind != api.KNull) {
				t.Errorf("Back(%x) = %s, %d, want null, %d", s, told(v), e, api.ErrSyntax)
			}
		})
	}
}

// TestShort: 6.2, of all texts of at most two bytes, behind the beginnings of all kinds.
func TestShort(t *testing.T) {
	var all strings.Builder
	for c := range 256 {
		all.WriteByte(byte(c))
	}
	for _, front := range []string{"", "\x01", "\x01\x01a", "\x01\x01a\x00", "\x01\x01a\x00\x00", "\x02\x00\x00\x00\x00\x00\x00", "\x03\x00\x00\x00\x00\x00\x00\x00", "\x04", "\x04\x06", "\x05", "\x05\x00", "\x05\x00\xff", "\x06", "\x07\x00\x00\x00\x00\x00\x00"} {
		texts(all.String(), 2, func(s string) { check(t, front+s) })
	}
}

// TestOneOff: 6.2, of values' keys cut off, with something behind, and with one byte changed, left out, or put in.
func TestOneOff(t *testing.T) {
	for _, v := range values() {
		s := written(v)
		if len(s) > 70 {
			continue
		}
		for at := range s {
			check(t, s[:at])
			check(t, s[:at]+s[at+1:])
			for _, c := range strings.Split("\x00 \x01 \x02 \x03 \x04 \x05 \x06 \x07 \x08 \x09 a b \x7f \x80 \xfe \xff", " ") {
				check(t, s[:at]+c+s[at+1:])
				check(t, s[:at]+c+s[at:])
			}
		}
		for _, behind := range []string{"\x00", "\x01", "\x08", "\xff", s} {
			check(t, s+behind)
		}
	}
}

// TestBackWrong: 6.2, ErrSyntax, and null beside it.
func TestBackWrong(t *testing.T) {
	rep := strings.Repeat
	key := func(k string) string { return "\x01" + ended(k) + "\x08" }
	for name, s := range map[string]string{
		"nothing":                            "",
		"no byte of a kind":                  "\x00",
		"no byte of a kind, above all":       "\x09",
		"no byte of a kind, the last":        "\xff",
		"no truth":                           "\x06\x02",
		"no truth, above all":                "\x06\xff",
		"a truth without its byte":           "\x06",
		"more behind null":                   "\x08\x08",
		"more behind a truth":                "\x06\x01\x00",
		"more behind a number":               "\x07" + rep("\x00", 9),
		"more behind a text":                 "\x05a\x00\x00\x00",
		"more behind a list":                 "\x04\x00\x00",
		"more behind a map":                  "\x01\x00\x00",
		"a number of seven bytes":            "\x07" + rep("\x80", 7),
		"a number of none":                   "\x07",
		"a node of seven bytes":              "\x02" + rep("\x01", 7),
		"a node of none":                     "\x02",
		"an edge of seven bytes":             "\x03" + rep("\x01", 7),
		"node 0":                             "\x02" + rep("\x00", 8),
		"edge 0":                             "\x03" + rep("\x00", 8),
		"node 2^63":                          "\x02\x80" + rep("\x00", 7),
		"edge 2^63":                          "\x03\x80" + rep("\x00", 7),
		"node 2^64 - 1":                      "\x02" + rep("\xff", 8),
		"edge 2^64 - 1":                      "\x03" + rep("\xff", 8),
		"node 0, in a list":                  "\x04\x02" + rep("\x00", 9),
		"a text without an end":              "\x05a",
		"a text with half an end":            "\x05a\x00",
		"a text with a byte behind a 00":     "\x05a\x00\x01\x00\x00",
		"a text with FE behind a 00":         "\x05\x00\xfe\x00\x00",
		"a text that ends in 00 FF":          "\x05\x00\xff",
		"a text that ends in 00 FF 00":       "\x05\x00\xff\x00",
		"a list without an end":              "\x04\x08",
		"a list of nothing without an end":   "\x04",
		"a list with a byte of no kind":      "\x04\x09\x00",
		"a list with half a text":            "\x04\x05a\x00",
		"a map without an end":               "\x01\x01a\x00\x00\x08",
		"a map of nothing without an end":    "\x01",
		"a map with 02 ahead of a key":       "\x01\x02a\x00\x00\x08\x00",
		"a map without 01 ahead of a key":    "\x01a\x00\x00\x08\x00",
		"a map without a value":              "\x01\x01a\x00\x00",
		"a map with 00 for a value":          "\x01\x01a\x00\x00\x00",
		"a map with a key without an end":    "\x01\x01a\x00",
		"a map with a byte behind a 00":      "\x01\x01a\x00\x01\x00\x00\x08\x00",
		"an empty key":                       "\x01" + key("") + "\x00",
		"an empty key among others":          "\x01" + key("") + key("a") + "\x00",
		"a key of 65 bytes":                  "\x01" + key(rep("k", 65)) + "\x00",
		"a key of 65 bytes 00":               "\x01" + key(rep("\x00", 65)) + "\x00",
		"a key twice":                        "\x01" + key("a") + key("a") + "\x00",
		"keys that fall":                     "\x01" + key("b") + key("a") + "\x00",
		"keys that fall at the end":          "\x01" + key("a") + key("c") + key("b") + "\x00",
		"keys that fall, the longer ahead":   "\x01" + key("a\x00") + key("a") + "\x00",
		"keys that fall, in a list":          "\x04\x01" + key("b") + key("a") + "\x00\x00",
		"33 deep":                            rep("\x04", 32) + "\x08" + rep("\x00", 32),
		"33 deep, lists alone":               rep("\x04", 33) + rep("\x00", 33),
		"33 deep, maps":                      rep("\x01\x01k\x00\x00", 32) + "\x08" + rep("\x00", 32),
		"33 deep, behind others":             "\x04\x08" + rep("\x04", 31) + "\x08" + rep("\x00", 32),
		"2^22 deep":                          rep("\x04", 1<<22) + rep("\x00", 1<<22),
		"2^22 deep, without an end":          rep("\x04", 1<<22),
		"2^20 deep, maps":                    rep("\x01\x01k\x00\x00", 1<<20),
		"4097 parts":                         "\x04" + rep("\x08", 4096) + "\x00",
		"4097 parts, in two lists":           "\x04\x04" + rep("\x08", 2000) + "\x00\x04" + rep("\x08", 2094) + "\x00\x00",
		"4097 parts, the last a list":        "\x04" + rep("\x08", 4095) + "\x04\x00\x00",
		"2^18 parts":                         "\x04" + rep("\x08", 1<<18) + "\x00",
		"a text of 2^22 bytes without end":   "\x05" + rep("t", 1<<22),
		"a text of 2^21 noughts without end": "\x05" + rep("\x00\xff", 1<<21),
	} {
		if v, e := rank.Back(s); e != api.ErrSyntax || told(v) != told(null) {
			t.Errorf("%s: Back(%.200x) = %.200s, %d, want null, %d", name, s, told(v), e, api.ErrSyntax)
		}
		if _, e := read(s); e != api.ErrSyntax {
			t.Errorf("%s: the test's own reader tells %d, want %d", name, e, api.ErrSyntax)
		}
	}
}

// TestFull: 6.2, what is at a limit is read.
func TestFull(t *testing.T) {
	for name, v := range map[string]api.Value{
		"4096 parts":                 many(4095, null),
		"4096 parts, in a map":       numbered(4095, null),
		"4096 parts, in two lists":   list(many(2000, null), many(2093, null)),
		"32 deep":                    nested(31, edge(1)),
		"32 deep, maps":              mapped(31, text("k")),
		"32 deep, thrice":            list(nested(30, null), nested(30, null), mapped(30, list())),
		"a key of 64 bytes":          dict(strings.Repeat("k", 64), null),
		"a key of 64 bytes 00":       keyed([]string{strings.Repeat("\x00", 64)}, null),
		"a text of 2^20 bytes":       text(strings.Repeat("t", 1<<20)),
		"a text of 2^20 bytes 00":    text(strings.Repeat("\x00", 1<<20)),
		"keys that rise by bytes":    keyed([]string{"\x00", "\x00\x00", "\x00\x01", "\x01", "a", "\xff"}, null, null, null, null, null, null),
		"the last node and the edge": list(node(1<<63-1), edge(1<<63-1)),
	} {
		if w, e := rank.Back(written(v)); e != api.OK || told(w) != told(v) {
			t.Errorf("%s: Back = %.200s, %d", name, told(w), e)
		}
	}
}
