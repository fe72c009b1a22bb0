package msg_test

import (
	"bytes"
	"math"
	"strconv"
	"strings"
	"testing"

	"wattle/api"
	"wattle/internal/sample"
	"wattle/msg"
	"wattle/pack"
	"wattle/value"
)

// row is the list whose bytes a message's load is, by the chapter's words.
func row(m api.Msg) api.Value {
	kind := number(int64(m.Kind))
	switch m.Kind {
	case 1:
		return list(kind, text(m.Name))
	case 3:
		return list(kind, text(m.Text), m.Val)
	case 4, 18:
		return list(kind, number(m.Num))
	case 16, 17:
		return list(kind, m.Val)
	}
	return list(kind)
}

// written is what Encode is to answer.
func written(m api.Msg) (string, api.Errno) {
	if !may(m) {
		return "", api.ErrProtocol
	}
	b, e := pack.Encode(row(m))
	if e != api.OK || len(b) > 32768 {
		return "", api.ErrRange
	}
	return string(b), api.OK
}

// read is what Decode is to answer: the numbers of the kinds of a list's values tell which fields they may be.
func read(b []byte) (api.Msg, api.Errno) {
	v, n, e := pack.Decode(b)
	if e != api.OK || n != len(b) || n > 32768 || v.Kind != 4 || len(v.List) == 0 || v.List[0].Kind != 2 {
		return api.Msg{}, api.ErrProtocol
	}
	l := append(v.List, null, null)
	form := strconv.FormatInt(l[0].Int, 10) + ":"
	for _, x := range v.List[1:] {
		form += strconv.Itoa(x.Kind)
	}
	m := api.Msg{Kind: int(l[0].Int)}
	switch form {
	case "1:3":
		m.Name = l[1].Str
	case "3:35":
		m.Text, m.Val = l[1].Str, l[2]
	case "4:2", "18:2":
		m.Num = l[1].Int
	case "16:5", "17:4":
		m.Val = l[1]
	case "2:", "5:", "6:", "7:", "8:", "19:":
	default:
		return api.Msg{}, api.ErrProtocol
	}
	if !may(m) {
		return api.Msg{}, api.ErrProtocol
	}
	return m, api.OK
}

// check holds Decode against read, and against Encode.
func check(t *testing.T, b []byte) {
	t.Helper()
	want, wrong := read(b)
	m, e := msg.Decode(b)
	if e != wrong || told(m) != told(want) {
		t.Errorf("Decode(%.200x) = %.200s, %d, want %.200s, %d", b, told(m), e, told(want), wrong)
	}
	if e != api.OK {
		return
	}
	if again, e := msg.Encode(m); e != api.OK || !bytes.Equal(again, b) {
		t.Errorf("Encode of what Decode read of %.200x: %.200x, %d", b, again, e)
	}
}

// TestWritten: 8.2, messages and their loads, written out.
func TestWritten(t *testing.T) {
	long := strings.Repeat("n", 64)
	for _, c := range []struct {
		m api.Msg
		b string
	}{
		{api.Msg{Kind: api.Hello, Name: "ann"}, "\x05\x02\x03\x02\x04\x03ann"},
		{api.Msg{Kind: api.Hello, Name: long}, "\x05\x02\x03\x02\x04\x40" + long},
		{api.Msg{Kind: api.Begin}, "\x05\x01\x03\x04"},
		{api.Msg{Kind: api.Run, Val: dict("")}, "\x05\x03\x03\x06\x04\x00\x06\x00"},
		{api.Msg{Kind: api.Run, Text: "RETURN", Val: dict("k", number(-1))}, "\x05\x03\x03\x06\x04\x06RETURN\x06\x01\x01k\x03\x01"},
		{api.Msg{Kind: api.Pull, Num: 1}, "\x05\x02\x03\x08\x03\x02"},
		{api.Msg{Kind: api.Pull, Num: 3}, "\x05\x02\x03\x08\x03\x06"},
		{api.Msg{Kind: api.Pull, Num: 4096}, "\x05\x02\x03\x08\x03\x80\x40"},
		{api.Msg{Kind: api.Commit}, "\x05\x01\x03\x0a"},
		{api.Msg{Kind: api.Rollback}, "\x05\x01\x03\x0c"},
		{api.Msg{Kind: api.Reset}, "\x05\x01\x03\x0e"},
		{api.Msg{Kind: api.Goodbye}, "\x05\x01\x03\x10"},
		{api.Msg{Kind: api.Success, Val: dict("")}, "\x05\x02\x03\x20\x06\x00"},
		{api.Msg{Kind: api.Success, Val: dict("cols", list(text("x")))}, "\x05\x02\x03\x20\x06\x01\x04cols\x05\x01\x04\x01x"},
		{api.Msg{Kind: api.Success, Val: dict("more", boolean(false))}, "\x05\x02\x03\x20\x06\x01\x04more\x01"},
		{api.Msg{Kind: api.Record, Val: list()}, "\x05\x02\x03\x22\x05\x00"},
		{api.Msg{Kind: api.Record, Val: list(null, number(2))}, "\x05\x02\x03\x22\x05\x02\x00\x03\x04"},
		{api.Msg{Kind: api.Failure, Num: 1}, "\x05\x02\x03\x24\x03\x02"},
		{api.Msg{Kind: api.Failure, Num: 9}, "\x05\x02\x03\x24\x03\x12"},
		{api.Msg{Kind: api.Ignored}, "\x05\x01\x03\x26"},
	} {
		if b, e := msg.Encode(c.m); e != api.OK || string(b) != c.b {
			t.Errorf("Encode(%.200s) = %.200x, %d, want %.200x", told(c.m), b, e, c.b)
		}
		if m, e := msg.Decode([]byte(c.b)); e != api.OK || told(m) != told(c.m) {
			t.Errorf("Decode(%.200x) = %.200s, %d, want %.200s", c.b, told(m), e, told(c.m))
		}
		if b, e := written(c.m); e != api.OK || b != c.b {
			t.Errorf("the test's own load of %.200s is %.200x, want %.200x", told(c.m), b, c.b)
		}
	}
}

// TestEncode: 8.2, messages of all kinds with each field as it may be, and as it may not.
func TestEncode(t *testing.T) {
	crossed(func(m api.Msg) {
		want, wrong := written(m)
		if b, e := msg.Encode(m); e != wrong || string(b) != want {
			t.Errorf("Encode(%.200s) = %.200x, %d, want %.200x, %d", told(m), b, e, want, wrong)
		}
	})
}

// TestThereAndBack: 8.3 and P3, of all messages that may be.
func TestThereAndBack(t *testing.T) {
	for _, m := range messages() {
		want, wrong := written(m)
		b, e := msg.Encode(m)
		if e != wrong || wrong != api.OK || string(b) != want {
			t.Errorf("Encode(%.200s) = %.200x, %d, want %.200x, %d", told(m), b, e, want, wrong)
		}
		if got, e := msg.Decode(b); e != api.OK || told(got) != told(m) {
			t.Errorf("Decode(%.200x) = %.200s, %d, want %.200s", b, told(got), e, told(m))
		}
	}
}

// filled is messages that have a Val with a text of n bytes in it.
func filled(n int) []api.Msg {
	s := text(strings.Repeat("t", n))
	return []api.Msg{
		{Kind: api.Run, Val: dict("k", s)},
		{Kind: api.Run, Text: "RETURN $k AS k", Val: dict("k", s)},
		{Kind: api.Success, Val: dict("k", s)},
		{Kind: api.Record, Val: list(s)},
		{Kind: api.Record, Val: list(null, s, null)},
	}
}

// ranged holds Encode against written, and Decode of the list's bytes, where there are any.
func ranged(t *testing.T, m api.Msg) api.Errno {
	t.Helper()
	want, wrong := written(m)
	b, e := msg.Encode(m)
	if e != wrong || string(b) != want {
		t.Errorf("Encode(%.100s) = %.100x, %d, want %.100x, %d", told(m), b, e, want, wrong)
	}
	if b, e := pack.Encode(row(m)); e == api.OK {
		check(t, b)
	}
	return e
}

// TestMostBytes: 8.2, a load has MaxFrame bytes at most; a longer one is neither written nor read.
func TestMostBytes(t *testing.T) {
	for at := range filled(0) {
		most := 0
		for n := 32700; n < 32800; n++ {
			m := filled(n)[at]
			if ranged(t, m) == api.OK {
				b, _ := msg.Encode(m)
				most = max(most, len(b))
			}
		}
		if most != api.MaxFrame {
			t.Errorf("the longest load of %.100s has %d bytes, want %d", told(filled(0)[at]), most, api.MaxFrame)
		}
		for _, n := range []int{1 << 16, 1<<16 + 1, 1 << 20} {
			if e := ranged(t, filled(n)[at]); e != api.ErrRange {
				t.Errorf("Encode, with %d bytes: %d, want %d", n, e, api.ErrRange)
			}
		}
	}
}

// TestMostParts: 8.2, the list has more parts than the Val, and is nested deeper: ErrRange at one beyond each limit.
func TestMostParts(t *testing.T) {
	for _, c := range []struct {
		name string
		m    api.Msg
		want api.Errno
	}{
		{"run, 4093 parts", api.Msg{Kind: api.Run, Text: "t", Val: numbered(4092, null)}, api.ErrRange}, // too many bytes
		{"run, 4093 parts, few bytes", api.Msg{Kind: api.Run, Text: "t", Val: dict("k", many(4091, null))}, api.OK},
		{"run, 4094 parts", api.Msg{Kind: api.Run, Text: "t", Val: dict("k", many(4092, null))}, api.ErrRange},
		{"run, 4096 parts", api.Msg{Kind: api.Run, Text: "t", Val: dict("k", many(4094, null))}, api.ErrRange},
		{"run, 4097 parts", api.Msg{Kind: api.Run, Text: "t", Val: dict("k", many(4095, null))}, api.ErrProtocol},
		{"success, 4094 parts", api.Msg{Kind: api.Success, Val: dict("k", many(4092, null))}, api.OK},
		{"success, 4095 parts", api.Msg{Kind: api.Success, Val: dict("k", many(4093, null))}, api.ErrRange},
		{"record, 4094 parts", api.Msg{Kind: api.Record, Val: many(4093, null)}, api.OK},
		{"record, 4095 parts", api.Msg{Kind: api.Record, Val: many(4094, null)}, api.ErrRange},
		{"record, 4096 parts", api.Msg{Kind: api.Record, Val: many(4095, null)}, api.ErrRange},
		{"record, 4097 parts", api.Msg{Kind: api.Record, Val: many(4096, null)}, api.ErrProtocol},
		{"record, 31 deep", api.Msg{Kind: api.Record, Val: nested(30, null)}, api.OK},
		{"record, 32 deep", api.Msg{Kind: api.Record, Val: nested(31, null)}, api.ErrRange},
		{"record, 33 deep", api.Msg{Kind: api.Record, Val: nested(32, null)}, api.ErrProtocol},
		{"success, 31 deep", api.Msg{Kind: api.Success, Val: mapped(30, null)}, api.OK},
		{"success, 32 deep", api.Msg{Kind: api.Success, Val: mapped(31, null)}, api.ErrRange},
		{"run, 31 deep", api.Msg{Kind: api.Run, Val: mapped(30, list())}, api.OK},
		{"run, 32 deep", api.Msg{Kind: api.Run, Val: mapped(31, list())}, api.ErrRange},
		{"a text too long, 32 deep", api.Msg{Kind: api.Run, Text: strings.Repeat("t", 1<<14+1), Val: mapped(31, null)}, api.ErrProtocol},
		{"not plain, 32 deep", api.Msg{Kind: api.Record, Val: nested(31, node(1))}, api.ErrProtocol},
		{"not plain, too many bytes", api.Msg{Kind: api.Record, Val: list(text(strings.Repeat("t", 1<<16)), edge(1))}, api.ErrProtocol},
	} {
		if e := ranged(t, c.m); e != c.want {
			t.Errorf("%s: Encode: %d, want %d", c.name, e, c.want)
		}
	}
}

// texts hands f all texts of at most so many bytes of an alphabet, in one memory, behind some that all have.
func texts(front, alphabet string, most int, f func(b []byte)) {
	var grow func(b []byte, left int)
	grow = func(b []byte, left int) {
		f(b)
		if left == 0 {
			return
		}
		for i := range len(alphabet) {
			grow(append(b, alphabet[i]), left-1)
		}
	}
	grow(append(make([]byte, 0, len(front)+most), front...), most)
}

// TestShort: 8.2 and 8.3, of all short bytes, and of all short endings of lists.
func TestShort(t *testing.T) {
	var all strings.Builder
	for c := range 256 {
		all.WriteByte(byte(c))
	}
	const some = "\x00\x01\x02\x03\x04\x05\x06\x08\x09\x12\x22\x80\x81a"
	f := func(b []byte) { check(t, b) }
	texts("", all.String(), 2, f)
	texts("", some, 4, f)
	texts("\x05\x01\x03", all.String(), 2, f)
	for front := range strings.SplitSeq("\x02 \x06 \x08 \x10 \x20 \x22 \x24 \x26", " ") {
		texts("\x05\x02\x03"+front, some, 4, f)
		texts("\x05\x03\x03"+front, "\x00\x01\x02\x04\x05\x06a", 5, f)
	}
}

// TestLists: 8.2, of the bytes of lists of each number and up to three values behind it, and of such as begin with no number.
func TestLists(t *testing.T) {
	values := []api.Value{null, boolean(true), number(0), number(1), number(9), number(10), number(4096), number(4097), number(-1), number(math.MinInt64),
		text(""), text("a"), text(strings.Repeat("n", 64)), text(strings.Repeat("n", 65)), node(1), edge(3), list(), list(number(1)), list(edge(1)), dict(""), dict("k", null), dict("k", list(node(1)))}
	heads := []api.Value{null, boolean(true), text(""), text("\x02"), list(), list(number(2)), dict(""), node(2), edge(2)}
	for _, kind := range everyKind() {
		heads = append(heads, number(int64(kind)))
	}
	try := func(l ...api.Value) {
		b, e := pack.Encode(list(l...))
		if e != api.OK {
			t.Fatalf("Encode(%.200s): %d", sample.Told(list(l...)), e)
		}
		check(t, b)
	}
	try()
	for _, head := range heads {
		try(head)
		for _, v := range values {
			try(head, v)
			for _, w := range values {
				try(head, v, w)
				try(head, v, w, null)
			}
		}
	}
	for _, m := range messages() {
		try(append(row(m).List, null)...)
		try(append([]api.Value{null}, row(m).List...)...)
	}
}

// TestOneOff: 8.2 and 8.3, of loads with one byte changed, left out, or put in, cut off anywhere, or with more behind them.
func TestOneOff(t *testing.T) {
	for i, m := range messages() {
		b, _ := msg.Encode(m)
		if len(b) > 28 || m.Kind == api.Pull && i%64 > 2 {
			continue
		}
		for at := range b {
			check(t, b[:at])
			check(t, append(bytes.Clone(b[:at]), b[at+1:]...))
			for _, c := range []byte{0, 1, 2, 3, 4, 5, 6, 7, 8, 9, 'a', 64, 65, 127, 128, 129, 255, b[at] ^ 32, b[at] + 2, b[at] - 2} {
				changed := bytes.Clone(b)
				changed[at] = c
				check(t, changed)
				check(t, append(append(bytes.Clone(b[:at]), c), b[at:]...))
			}
		}
		for _, behind := range []string{"\x00", "\x05", "\xff", string(b)} {
			if got, e := msg.Decode([]byte(string(b) + behind)); e != api.ErrProtocol || told(got) != told(api.Msg{}) {
				t.Errorf("Decode(%.100x, then %.100x) = %.200s, %d, want %d", b, behind, told(got), e, api.ErrProtocol)
			}
		}
	}
}

// TestDecodeWrong: 8.2, ErrProtocol and no message of what is no load.
func TestDecodeWrong(t *testing.T) {
	rep := strings.Repeat
	for name, b := range map[string]string{
		"nothing":                       "",
		"a null":                        "\x00",
		"a number":                      "\x03\x04",
		"a map":                         "\x06\x01\x01a\x03\x04",
		"a list of none":                "\x05\x00",
		"a list of a list":              "\x05\x01\x05\x01\x03\x04",
		"begin, and null":               "\x05\x02\x03\x04\x00",
		"begin, and an empty text":      "\x05\x02\x03\x04\x04\x00",
		"begin, and a byte behind it":   "\x05\x01\x03\x04\x00",
		"begin twice":                   "\x05\x01\x03\x04\x05\x01\x03\x04",
		"begin, cut off":                "\x05\x01\x03",
		"begin in two sevens":           "\x05\x01\x03\x84\x00",
		"begin, the list in two sevens": "\x05\x81\x00\x03\x04",
		"kind 0":                        "\x05\x01\x03\x00",
		"kind -2":                       "\x05\x01\x03\x03",
		"kind 9":                        "\x05\x01\x03\x12",
		"kind 15":                       "\x05\x01\x03\x1e",
		"kind 20":                       "\x05\x01\x03\x28",
		"kind 258":                      "\x05\x01\x03\x84\x04",
		"kind 2^32 and 2":               "\x05\x01\x03\x84\x80\x80\x80\x20",
		"kind 2 as a text":              "\x05\x01\x04\x01\x02",
		"kind 2 as a node":              "\x05\x01\x07\x02",
		"hello without a name":          "\x05\x01\x03\x02",
		"hello with an empty name":      "\x05\x02\x03\x02\x04\x00",
		"hello with a number":           "\x05\x02\x03\x02\x03\x02",
		"hello with two names":          "\x05\x03\x03\x02\x04\x01a\x04\x01b",
		"hello of 65 bytes":             "\x05\x02\x03\x02\x04\x41" + rep("n", 65),
		"run without a map":             "\x05\x02\x03\x06\x04\x01a",
		"run with null":                 "\x05\x03\x03\x06\x04\x01a\x00",
		"run with a list":               "\x05\x03\x03\x06\x04\x01a\x05\x00",
		"run, the map ahead":            "\x05\x03\x03\x06\x06\x00\x04\x01a",
		"run with a node":               "\x05\x03\x03\x06\x04\x01a\x06\x01\x01k\x07\x01",
		"run with keys that fall":       "\x05\x03\x03\x06\x04\x01a\x06\x02\x01k\x00\x01a\x00",
		"run of 2^14 and 1 bytes":       "\x05\x03\x03\x06\x04\x81\x80\x01" + rep("t", 1<<14+1) + "\x06\x00",
		"pull of 0":                     "\x05\x02\x03\x08\x03\x00",
		"pull of -1":                    "\x05\x02\x03\x08\x03\x01",
		"pull of 4097":                  "\x05\x02\x03\x08\x03\x82\x40",
		"pull of a text":                "\x05\x02\x03\x08\x04\x01\x06",
		"pull of a node":                "\x05\x02\x03\x08\x07\x03",
		"pull without a number":         "\x05\x01\x03\x08",
		"success with null":             "\x05\x02\x03\x20\x00",
		"success with a list":           "\x05\x02\x03\x20\x05\x00",
		"success with an edge":          "\x05\x02\x03\x20\x06\x01\x01k\x08\x01",
		"record with a map":             "\x05\x02\x03\x22\x06\x00",
		"record with a node":            "\x05\x02\x03\x22\x05\x01\x07\x01",
		"record with two lists":         "\x05\x03\x03\x22\x05\x00\x05\x00",
		"record, 32 deep":               "\x05\x02\x03\x22" + rep("\x05\x01", 31) + "\x00",
		"record, 4095 parts":            "\x05\x02\x03\x22\x05\xfe\x1f" + rep("\x00", 4094),
		"failure 0":                     "\x05\x02\x03\x24\x03\x00",
		"failure 10":                    "\x05\x02\x03\x24\x03\x14",
		"failure without a number":      "\x05\x01\x03\x24",
		"2^17 bytes of lists":           rep("\x05\x01", 1<<16),
		"2^20 bytes of nothing":         rep("\x00", 1<<20),
	} {
		for range 2 {
			if m, e := msg.Decode([]byte(b)); e != api.ErrProtocol || told(m) != told(api.Msg{}) {
				t.Errorf("%s: Decode(%.100x) = %.200s, %d, want %d", name, b, told(m), e, api.ErrProtocol)
			}
		}
		if _, e := read([]byte(b)); e != api.ErrProtocol {
			t.Errorf("%s: the test's own reader tells %d", name, e)
		}
	}
}

// spoil writes over bytes, up to their capacity.
func spoil(b []byte) {
	b = b[:cap(b)]
	for i := range b {
		b[i] = 0xaa
	}
}

// TestApart: R3, what is handed in is not changed, and no answer shares memory with it or with another one; P2, asked twice.
func TestApart(t *testing.T) {
	for i, m := range messages() {
		if m.Kind == api.Pull && i%64 > 2 {
			continue
		}
		m.Val = value.Copy(m.Val)
		want := told(m)
		b, _ := msg.Encode(m)
		first := bytes.Clone(b)
		again, _ := msg.Encode(m)
		memory := append(bytes.Clone(b), "\x00behind"...)
		w, e := msg.Decode(memory[:len(b)])
		x, _ := msg.Decode(b)
		if e != api.OK || told(w) != want || told(x) != want || told(m) != want || !bytes.Equal(again, first) || !bytes.Equal(b, first) || string(memory) != string(first)+"\x00behind" {
			t.Fatalf("%.200s: not alike when asked twice, or changed", want)
		}
		sample.Spoil(w.Val)
		spoil(memory)
		spoil(b)
		if told(m) != want || told(x) != want || !bytes.Equal(again, first) {
			t.Fatalf("%.200s: memory is shared", want)
		}
		sample.Spoil(m.Val)
		if told(x) != want || !bytes.Equal(again, first) {
			t.Fatalf("%.200s: memory is kept", want)
		}
	}
}

// TestListsApart: R3, no two lists of one answer share memory.
func TestListsApart(t *testing.T) {
	want := api.Msg{Kind: api.Record, Val: list(list(null, null), list(null, null, null), dict("a b", null, null), dict("a b", list(), list()), list())}
	b, _ := msg.Encode(want)
	for i := range want.Val.List {
		m, _ := msg.Decode(b)
		l := m.Val.List
		l[i].List = append(l[i].List, text("more"))
		l[i].Keys = append(l[i].Keys, "more")
		sample.Spoil(l[i])
		for j, v := range want.Val.List {
			if j != i && sample.Told(l[j]) != sample.Told(v) {
				t.Errorf("list %d is changed with list %d", j, i)
			}
		}
	}
}
