package msg_test

import (
	"math"
	"strconv"
	"strings"
	"testing"

	"wattle/api"
	"wattle/internal/sample"
	"wattle/msg"
	"wattle/value"
)

var (
	null     = api.Value{}
	boolean  = sample.Bool
	number   = sample.Int
	text     = sample.Text
	node     = sample.Node
	edge     = sample.Edge
	list     = sample.List
	dict     = sample.Dict
	nested   = sample.Nested
	mapped   = sample.Mapped
	many     = sample.Many
	numbered = sample.Numbered
)

// told is a message as a text that no other one has.
func told(m api.Msg) string {
	return strconv.Itoa(m.Kind) + " " + strconv.Quote(m.Name) + " " + strconv.Quote(m.Text) + " " + strconv.FormatInt(m.Num, 10) + " " + sample.Told(m.Val)
}

// plain tells whether a value that may be has no node and no edge in it.
func plain(v api.Value) bool {
	for _, x := range v.List {
		if !plain(x) {
			return false
		}
	}
	return v.Kind <= 5
}

// may tells whether a message may be, by the chapter's words: what its kind has is taken out of it, and nothing is left.
func may(m api.Msg) bool {
	rest := m
	rest.Kind = 0
	val := value.Check(m.Val) == api.OK && plain(m.Val)
	right := true
	switch m.Kind {
	case 1:
		right = len(m.Name) >= 1 && len(m.Name) <= 64
		rest.Name = ""
	case 3:
		right = len(m.Text) <= 16384 && val && m.Val.Kind == 5
		rest.Text, rest.Val = "", null
	case 4:
		right = m.Num >= 1 && m.Num <= 4096
		rest.Num = 0
	case 16:
		right = val && m.Val.Kind == 5
		rest.Val = null
	case 17:
		right = val && m.Val.Kind == 4
		rest.Val = null
	case 18:
		right = m.Num >= 1 && m.Num <= 9
		rest.Num = 0
	case 2, 5, 6, 7, 8, 19:
	default:
		return false
	}
	return right && told(rest) == told(api.Msg{})
}

// everyKind is the kinds of messages, and numbers that are none: all beside them, and such as are like them in their lowest bits.
func everyKind() []int {
	out := []int{math.MinInt, math.MaxInt, 1 << 32, 255, 256, 257, 258, 272, 1<<16 + 2, -1 << 32}
	for kind := -20; kind <= 40; kind++ {
		out = append(out, kind, 1<<32+kind)
	}
	return out
}

// vals is values, such as a Val may be, and such as it may not.
func vals() []api.Value {
	odd := []api.Value{{Str: "x"}, {Int: 1}, {Bool: true}, {List: []api.Value{null}}, {Keys: []string{"x"}}, {Kind: api.KMap, Bool: true}, {Kind: api.KList, Str: "x"}, {Kind: 8}, {Kind: -1}}
	return append(odd, null, api.Value{List: []api.Value{}, Keys: []string{}}, boolean(false), number(0), number(3), text(""), text("a"), node(1), edge(1),
		list(), list(null), list(number(1), text("a"), dict("")), list(node(1)), list(list(null, edge(2))), list(number(1), list(node(0))),
		dict(""), dict("x", number(1)), dict("x y", list(), dict("z", null)), dict("x", node(1)), dict("x", list(edge(7))), dict("y x", null, null), dict("x", null, null))
}

// crossed hands f messages of all kinds, with each field as it may be for some kind, and as it may not.
func crossed(f func(m api.Msg)) {
	values, names := vals(), []string{"", "n", strings.Repeat("n", 64), strings.Repeat("n", 65)}
	for _, kind := range everyKind() {
		for _, name := range names {
			for _, s := range []string{"", "RETURN", "\xff\x00"} {
				for _, n := range []int64{0, 1, 9, 10, 4096, 4097, -1, math.MinInt64, math.MaxInt64} {
					for _, v := range values {
						f(api.Msg{Kind: kind, Name: name, Text: s, Num: n, Val: v})
					}
				}
			}
		}
	}
}

// messages is messages that may be, of all kinds, with the ends of what each field may be.
func messages() []api.Msg {
	var out []api.Msg
	for _, kind := range []int{api.Begin, api.Commit, api.Rollback, api.Reset, api.Goodbye, api.Ignored} {
		out = append(out, api.Msg{Kind: kind})
	}
	for _, name := range []string{"a", "\x00", "\xff\xfe", "ä", "two words", strings.Repeat("n", 63), strings.Repeat("n", 64), strings.Repeat("ä", 32)} {
		out = append(out, api.Msg{Kind: api.Hello, Name: name})
	}
	for _, s := range []string{"", "RETURN 1 AS x", "\x00\xff", strings.Repeat("s", 127), strings.Repeat("s", 128), strings.Repeat("s", 16383), strings.Repeat("ä", 8192)} {
		out = append(out, api.Msg{Kind: api.Run, Text: s, Val: dict("")}, api.Msg{Kind: api.Run, Text: s, Val: dict("k l", number(1), list(null))})
	}
	for n := range int64(4096) {
		out = append(out, api.Msg{Kind: api.Pull, Num: n + 1})
	}
	for n := range int64(9) {
		out = append(out, api.Msg{Kind: api.Failure, Num: n + 1})
	}
	for _, v := range append(sample.Built(), number(-3), dict("\x00 ä \xff", text(""), null, boolean(true))) {
		if !plain(v) || value.Parts(v) > 2000 || value.Check(nested(4, v)) != api.OK {
			continue
		}
		m, l := dict("a k", null, v), list(v, null)
		out = append(out, api.Msg{Kind: api.Run, Text: "RETURN $k AS k", Val: m}, api.Msg{Kind: api.Success, Val: m}, api.Msg{Kind: api.Record, Val: l})
		switch v.Kind {
		case api.KMap:
			out = append(out, api.Msg{Kind: api.Run, Val: v}, api.Msg{Kind: api.Success, Val: v})
		case api.KList:
			out = append(out, api.Msg{Kind: api.Record, Val: v})
		}
	}
	return out
}

// TestCheck: 8.1, messages of all kinds with each field as it may be, and as it may not; P2, asked twice.
func TestCheck(t *testing.T) {
	right := 0
	crossed(func(m api.Msg) {
		want := api.ErrProtocol
		if may(m) {
			want = api.OK
			right++
		}
		for range 2 {
			if e := msg.Check(m); e != want {
				t.Errorf("Check(%.200s) = %d, want %d", told(m), e, want)
			}
		}
	})
	// Six kinds of nothing, each with two forms of null; two names; three texts with three maps; four Nums; three maps; three lists; two errors.
	if want := 6*2 + 2*2 + 3*3 + 4*2 + 3 + 3 + 2*2; right != want {
		t.Errorf("%d messages may be, want %d", right, want)
	}
}

// TestCheckRight: 8.1, all messages that may be.
func TestCheckRight(t *testing.T) {
	for _, m := range messages() {
		if e := msg.Check(m); e != api.OK || !may(m) {
			t.Errorf("Check(%.200s) = %d", told(m), e)
		}
	}
}

// TestLimits: 8.1, each limit of a field, and the one beyond.
func TestLimits(t *testing.T) {
	rep := strings.Repeat
	empty, deep, full := dict(""), mapped(31, null), numbered(4095, null)
	for _, c := range []struct {
		name string
		m    api.Msg
		want api.Errno
	}{
		{"no message", api.Msg{}, api.ErrProtocol},
		{"hello of nobody", api.Msg{Kind: api.Hello}, api.ErrProtocol},
		{"a name of 1 byte", api.Msg{Kind: api.Hello, Name: "n"}, api.OK},
		{"a name of 64 bytes", api.Msg{Kind: api.Hello, Name: rep("n", 64)}, api.OK},
		{"a name of 65 bytes", api.Msg{Kind: api.Hello, Name: rep("n", 65)}, api.ErrProtocol},
		{"a name of 33 signs", api.Msg{Kind: api.Hello, Name: rep("ä", 33)}, api.ErrProtocol},
		{"a name of 2^16 and 1 bytes", api.Msg{Kind: api.Hello, Name: rep("n", 1<<16+1)}, api.ErrProtocol},
		{"a text of none", api.Msg{Kind: api.Run, Val: empty}, api.OK},
		{"a text of 2^14 bytes", api.Msg{Kind: api.Run, Text: rep("t", 1<<14), Val: empty}, api.OK},
		{"a text of 2^14 and 1 bytes", api.Msg{Kind: api.Run, Text: rep("t", 1<<14+1), Val: empty}, api.ErrProtocol},
		{"a text of 2^13 and 1 signs", api.Msg{Kind: api.Run, Text: rep("ä", 1<<13+1), Val: empty}, api.ErrProtocol},
		{"a text of 2^20 bytes", api.Msg{Kind: api.Run, Text: rep("t", 1<<20), Val: empty}, api.ErrProtocol},
		{"run without parameters", api.Msg{Kind: api.Run, Text: "RETURN 1 AS x"}, api.ErrProtocol},
		{"run with a list", api.Msg{Kind: api.Run, Text: "RETURN 1 AS x", Val: list()}, api.ErrProtocol},
		{"pull of none", api.Msg{Kind: api.Pull}, api.ErrProtocol},
		{"pull of -1", api.Msg{Kind: api.Pull, Num: -1}, api.ErrProtocol},
		{"pull of 1", api.Msg{Kind: api.Pull, Num: 1}, api.OK},
		{"pull of 4096", api.Msg{Kind: api.Pull, Num: 4096}, api.OK},
		{"pull of 4097", api.Msg{Kind: api.Pull, Num: 4097}, api.ErrProtocol},
		{"pull of 2^32 and 1", api.Msg{Kind: api.Pull, Num: 1<<32 + 1}, api.ErrProtocol},
		{"failure 0", api.Msg{Kind: api.Failure}, api.ErrProtocol},
		{"failure 1", api.Msg{Kind: api.Failure, Num: 1}, api.OK},
		{"failure 9", api.Msg{Kind: api.Failure, Num: 9}, api.OK},
		{"failure 10", api.Msg{Kind: api.Failure, Num: 10}, api.ErrProtocol},
		{"failure 20", api.Msg{Kind: api.Failure, Num: 20}, api.ErrProtocol},
		{"success without a map", api.Msg{Kind: api.Success}, api.ErrProtocol},
		{"success with a list", api.Msg{Kind: api.Success, Val: list()}, api.ErrProtocol},
		{"record without a list", api.Msg{Kind: api.Record}, api.ErrProtocol},
		{"record with a map", api.Msg{Kind: api.Record, Val: empty}, api.ErrProtocol},
		{"a map that is 32 deep", api.Msg{Kind: api.Success, Val: deep}, api.OK},
		{"a map that is 33 deep", api.Msg{Kind: api.Success, Val: dict("k", deep)}, api.ErrProtocol},
		{"a map of 4096 parts", api.Msg{Kind: api.Run, Val: full}, api.OK},
		{"a map of 4097 parts", api.Msg{Kind: api.Run, Val: numbered(4096, null)}, api.ErrProtocol},
		{"a list of 4096 parts", api.Msg{Kind: api.Record, Val: many(4095, null)}, api.OK},
		{"a list of 4097 parts", api.Msg{Kind: api.Record, Val: many(4096, null)}, api.ErrProtocol},
		{"a text of 2^20 bytes in a list", api.Msg{Kind: api.Record, Val: list(text(rep("t", 1<<20)))}, api.OK},
	} {
		if e := msg.Check(c.m); e != c.want {
			t.Errorf("%s: Check = %d, want %d", c.name, e, c.want)
		}
	}
}

// vain is messages of all kinds whose Val is a value that may not be, or holds it.
func vain(v api.Value) []api.Msg {
	var out []api.Msg
	for _, x := range []api.Value{v, list(v), list(null, v), dict("k", v), dict("k l", list(), list(v))} {
		for kind := api.Hello; kind <= api.Ignored; kind++ {
			out = append(out, api.Msg{Kind: kind, Val: x}, api.Msg{Kind: kind, Name: "n", Val: x}, api.Msg{Kind: kind, Num: 1, Val: x})
		}
	}
	return out
}

// TestVain: 8.1 and 8.2, a Val that may not be, or is not plain, or is one that its kind has not; P1, also where it has no end.
func TestVain(t *testing.T) {
	wrong := sample.Wrong()
	for _, v := range []api.Value{node(1), edge(1), nested(20, node(1)), mapped(20, edge(9)), list(null, null, node(2)), dict("a b", null, edge(3))} {
		wrong["not plain: "+sample.Told(v)] = v
	}
	for name, v := range wrong {
		for _, m := range vain(v) {
			if e := msg.Check(m); e != api.ErrProtocol {
				t.Errorf("%s, kind %d: Check = %d, want %d", name, m.Kind, e, api.ErrProtocol)
			}
			if b, e := msg.Encode(m); e != api.ErrProtocol || len(b) > 0 {
				t.Errorf("%s, kind %d: Encode = %.200x, %d, want %d", name, m.Kind, b, e, api.ErrProtocol)
			}
		}
	}
}

// TestRequest: 8.1, kinds 1 to 8 are requests, no other number is.
func TestRequest(t *testing.T) {
	for _, kind := range everyKind() {
		if got, want := msg.Request(kind), kind >= 1 && kind <= 8; got != want {
			t.Errorf("Request(%d) = %t, want %t", kind, got, want)
		}
	}
	for _, kind := range []int{api.Hello, api.Begin, api.Run, api.Pull, api.Commit, api.Rollback, api.Reset, api.Goodbye} {
		if !msg.Request(kind) {
			t.Errorf("Request(%d) = false", kind)
		}
	}
	for _, kind := range []int{api.Success, api.Record, api.Failure, api.Ignored} {
		if msg.Request(kind) {
			t.Errorf("Request(%d) = true", kind)
		}
	}
}
