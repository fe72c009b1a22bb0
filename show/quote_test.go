package show_test

import (
	"regexp"
	"strconv"
	"strings"
	"testing"
	"unicode/utf8"

	"wattle/api"
	"wattle/show"
)

// sign is how many bytes the sign of Unicode at the front of a text has; 0, if there is none.
func sign(s string) int {
	for n := 1; n <= 4 && n <= len(s); n++ {
		if utf8.ValidString(s[:n]) {
			return n
		}
	}
	return 0
}

// quoted is a text in quotes, by the chapter's words of 5.1.
func quoted(s string) string {
	letters := map[byte]string{'\n': `\n`, '\t': `\t`, '\r': `\r`, '\\': `\\`, '\'': `\'`}
	var b strings.Builder
	b.WriteByte('\'')
	for s != "" {
		n := sign(s)
		if letter, ok := letters[s[0]]; ok {
			b.WriteString(letter)
		} else if n == 0 || s[0] < 0x20 || s[0] == 0x7F {
			n = 1
			b.WriteString(`\x` + strconv.FormatInt(0x100+int64(s[0]), 16)[1:])
		} else {
			b.WriteString(s[:n])
		}
		s = s[max(n, 1):]
	}
	b.WriteByte('\'')
	return b.String()
}

var (
	// form is what stands in quotes; a text that has it need not be UTF-8.
	form = regexp.MustCompile(`^'(?:\\[\\'ntr]|\\x[0-9a-fA-F]{2}|[^\\'\x00-\x1f\x7f])*'\z`)
	// piece is an escape.
	piece = regexp.MustCompile(`\\(?:x..|.)`)
)

// unquoted is what Unquote has to answer, by the chapter's words of 5.1.
func unquoted(s string) (string, api.Errno) {
	if !utf8.ValidString(s) || !form.MatchString(s) {
		return "", api.ErrSyntax
	}
	return piece.ReplaceAllStringFunc(s[1:len(s)-1], func(e string) string {
		if one, ok := map[string]string{`\n`: "\n", `\t`: "\t", `\r`: "\r", `\\`: `\`, `\'`: "'"}[e]; ok {
			return one
		}
		c, _ := strconv.ParseInt(e[2:], 16, 64)
		return string([]byte{byte(c)})
	}), api.OK
}

// texts is all rows of up to n of the pieces.
func texts(n int, pieces ...string) []string {
	out := []string{""}
	last := out
	for range n {
		var longer []string
		for _, s := range last {
			for _, p := range pieces {
				longer = append(longer, s+p)
			}
		}
		out, last = append(out, longer...), longer
	}
	return out
}

// octets is each byte as a text.
func octets() []string {
	var out []string
	for b := range 256 {
		out = append(out, string([]byte{byte(b)}))
	}
	return out
}

// odd is texts that are no UTF-8, or nearly none, with what they are in quotes.
func odd() map[string]string {
	return map[string]string{
		"\xc3\xa4":                 `'ä'`,
		"\xc3":                     `'\xc3'`,
		"\xa4":                     `'\xa4'`,
		"\xa4\xc3":                 `'\xa4\xc3'`,
		"\xc3\xc3\xa4":             `'\xc3ä'`,
		"\xc3\xa4\xa4":             `'ä\xa4'`,
		"\xc3a":                    `'\xc3a'`,
		"\xc3'":                    `'\xc3\''`,
		"\xc3\n":                   `'\xc3\n'`,
		"\xc1\xbf":                 `'\xc1\xbf'`,
		"\xc0\x80":                 `'\xc0\x80'`,
		"\xe0\x80\x80":             `'\xe0\x80\x80'`,
		"\xe0\x9f\xbf":             `'\xe0\x9f\xbf'`,
		"\xe0\xa0\x80":             "'\u0800'",
		"\xed\x9f\xbf":             "'\ud7ff'",
		"\xed\xa0\x80":             `'\xed\xa0\x80'`,
		"\xed\xbf\xbf":             `'\xed\xbf\xbf'`,
		"\xed\xa0\xbd\xed\xb8\x80": `'\xed\xa0\xbd\xed\xb8\x80'`,
		"\xee\x80\x80":             "'\ue000'",
		"\xef\xbf\xbd":             "'\ufffd'",
		"\xef\xbf":                 `'\xef\xbf'`,
		"\xef\xbf\xef\xbf\xbd\xbd": "'\\xef\\xbf\ufffd\\xbd'",
		"\xef\xbf\xbf":             "'\uffff'",
		"\xf0\x8f\xbf\xbf":         `'\xf0\x8f\xbf\xbf'`,
		"\xf0\x90\x80\x80":         "'\U00010000'",
		"\xf0\x9f\x98":             `'\xf0\x9f\x98'`,
		"\xf0\x9f\x98\x80":         "'\U0001f600'",
		"\xf0\x9f\x98\x80\x80":     "'\U0001f600\\x80'",
		"\xf4\x8f\xbf\xbf":         "'\U0010ffff'",
		"\xf4\x90\x80\x80":         `'\xf4\x90\x80\x80'`,
		"\xf5\x80\x80\x80":         `'\xf5\x80\x80\x80'`,
		"\xf8\x88\x80\x80\x80":     `'\xf8\x88\x80\x80\x80'`,
		"\xfe\xff":                 `'\xfe\xff'`,
		"\xff\xfe\x00":             `'\xff\xfe\x00'`,
	}
}

// TestQuote: 5.1, what stands as it is, and each kind of escape.
func TestQuote(t *testing.T) {
	cases := odd()
	for s, want := range map[string]string{
		"":                           `''`,
		"a":                          `'a'`,
		"a b":                        `'a b'`,
		"a'b":                        `'a\'b'`,
		"'":                          `'\''`,
		"''":                         `'\'\''`,
		`\`:                          `'\\'`,
		`\'`:                         `'\\\''`,
		`\n`:                         `'\\n'`,
		`\x41`:                       `'\\x41'`,
		`"`:                          `'"'`,
		"`$/~":                       "'`$/~'",
		"\n\t\r":                     `'\n\t\r'`,
		"\r\n":                       `'\r\n'`,
		"\x00":                       `'\x00'`,
		"\x00\xc3":                   `'\x00\xc3'`,
		"\x000":                      `'\x000'`,
		"\x01\x07\x08\x0b\x0c\x0e":   `'\x01\x07\x08\x0b\x0c\x0e'`,
		"\x1b\x1f ":                  `'\x1b\x1f '`,
		"~\x7f":                      `'~\x7f'`,
		"\u0080\u009f\u00a0":         "'\u0080\u009f\u00a0'",
		"\u200b\u2028\u202e\ufeff":   "'\u200b\u2028\u202e\ufeff'",
		"größer als\t3 € \U0001f600": "'größer als\\t3 € \U0001f600'",
		strings.Repeat("ä'", 3000):   "'" + strings.Repeat(`ä\'`, 3000) + "'",
	} {
		cases[s] = want
	}
	for s, want := range cases {
		for range 2 {
			if got := show.Quote(s); got != want {
				t.Errorf("Quote(%q) = %s, want %s", s, got, want)
			}
		}
	}
}

// TestQuoteShort: 5.1 and 5.3, P3, all texts of two bytes, and rows of bytes that could be of a sign, by the chapter's words, there and back.
func TestQuoteShort(t *testing.T) {
	all := texts(2, octets()...)
	all = append(all, texts(5, "a", "'", "\xc3", "\xe2", "\xef", "\xbf", "\xbd", "\xed", "\xa0")...)
	all = append(all, texts(4, "\x00", "\\", "x", "n", "\xf0", "\xf4", "\x8f", "\x90", "\x80", "\xff", "4", "\n")...)
	for _, s := range all {
		q := show.Quote(s)
		if q != quoted(s) {
			t.Fatalf("Quote(%q) = %s, want %s", s, q, quoted(s))
		}
		if got, e := show.Unquote(q); got != s || e != api.OK {
			t.Fatalf("Unquote(%s) = %q, %d, want %q", q, got, e, s)
		}
	}
}

// TestSigns: 5.1, each sign of Unicode stands as it is, but for those that are named; so does it in what is read.
func TestSigns(t *testing.T) {
	for r := rune(0); r <= utf8.MaxRune; r++ {
		s := string(r)
		if !utf8.ValidRune(r) || r < 0x20 || r == 0x7F || r == '\'' || r == '\\' {
			continue
		}
		if got := show.Quote(s); got != "'"+s+"'" {
			t.Fatalf("Quote(%q) = %s", s, got)
		}
		if got, e := show.Unquote("'" + s + "'"); got != s || e != api.OK {
			t.Fatalf("Unquote of %q in quotes = %q, %d", s, got, e)
		}
	}
}

// TestUnquote: 5.1, signs and escapes, alone and beside others.
func TestUnquote(t *testing.T) {
	for s, want := range map[string]string{
		`''`:                                   "",
		`'a'`:                                  "a",
		`'null'`:                               "null",
		`'a b'`:                                "a b",
		`'\''`:                                 "'",
		`'\\'`:                                 `\`,
		`'\\\''`:                               `\'`,
		`'\\n'`:                                `\n`,
		`'\n\t\r'`:                             "\n\t\r",
		`'\n\nn'`:                              "\n\nn",
		`'"'`:                                  `"`,
		`'\x00'`:                               "\x00",
		`'\x41\x4a\x4A'`:                       "AJJ",
		`'\x410'`:                              "A0",
		`'\xaf\xAF\xfA\xFa'`:                   "\xaf\xaf\xfa\xfa",
		`'\xC3\xa4'`:                           "ä",
		`'\xa4\xC3'`:                           "\xa4\xc3",
		`'\x27\x5c\x0A'`:                       "'\\\n",
		`'\xefa'`:                              "\xefa",
		`'\x7f\x1f\xff'`:                       "\x7f\x1f\xff",
		`'ä\'ö'`:                               "ä'ö",
		"'\ufffd'":                             "\ufffd",
		"'\u0080\u2028\U0010ffff'":             "\u0080\u2028\U0010ffff",
		"'" + `\x09ü` + "'":                    "\tü",
		"'" + strings.Repeat("€", 9) + `\xe2'`: strings.Repeat("€", 9) + "\xe2",
	} {
		for range 2 {
			if got, e := show.Unquote(s); got != want || e != api.OK {
				t.Errorf("Unquote(%s) = %q, %d, want %q", s, got, e, want)
			}
		}
	}
	for want, s := range odd() {
		if got, e := show.Unquote(s); got != want || e != api.OK {
			t.Errorf("Unquote(%s) = %q, %d, want %q", s, got, e, want)
		}
	}
}

// wrong is texts that are not in quotes, or not rightly.
func wrong() []string {
	out := []string{
		"", "'", "a", "'a", "a'", "a''", "''a", "'a'b'", "'a''b'", "'''", "''''", `""`, `"a"`, "`a`", " 'a'", "'a' ", "'a'\n",
		`'\'`, `'\\\'`, `'a\'`, `\''`, `'\\'\'`, `\'a\'`, `'\'a`,
		`'\q'`, `'\N'`, `'\T'`, `'\R'`, `'\b'`, `'\f'`, `'\a'`, `'\v'`, `'\0'`, `'\"'`, `'\ '`, `'\u00e4'`, `'\U0001f600'`, `'\/'`, `'\101'`, "'\\\n'", `'\ä'`, "'\\\xff'",
		`'\x'`, `'\x4'`, `'\xg0'`, `'\x0g'`, `'\x4'1'`, `'\x 4'`, `'\x4 '`, `'\x+4'`, `'\x-4'`, `'\x_4'`, `'\x4_'`, `'\x0x'`, `'\X41'`, `'\x:0'`, `'\x/0'`, `'\x@0'`, "'\\x`0'", `'\x0G'`, `'\x0ä'`, "'\\x\x100'", "'\\x0\x11'", "'\\x0\xff'", `'\x\x4141'`, `'\x{41}'`,
		"'\x00'", "'\t'", "'\n'", "'\r'", "'\x1f'", "'\x7f'", "'a\nb'", "'a\x7f'", "'\r\n'",
		"\xef\xbb\xbf'a'", "‘a’", "'\xc3", "\xc3'",
	}
	for s, q := range odd() {
		if strings.Contains(q, `\x`) {
			out = append(out, "'"+s+"'", "'a"+s+"b'", `'\n`+s+`\n'`)
		}
	}
	return out
}

// TestUnquoteWrong: 5.1, ErrSyntax, and no text beside it (R2).
func TestUnquoteWrong(t *testing.T) {
	for _, s := range wrong() {
		for range 2 {
			if got, e := show.Unquote(s); got != "" || e != api.ErrSyntax {
				t.Errorf("Unquote(%q) = %q, %d, want %d", s, got, e, api.ErrSyntax)
			}
		}
	}
}

// TestUnquoteShort: 5.1, all short rows of what an escape, a sign and a text's ends are made of, by the chapter's words.
func TestUnquoteShort(t *testing.T) {
	inner := texts(5, "'", `\`, "x", "n", "4", "F", "g", "ä", "\xff", "\n")
	for _, c := range octets() {
		inner = append(inner, `\`+c, `\x`+c+"0", `\x0`+c, `\n`+c, c+`\x41`, c+"a", "ä"+c)
		for _, d := range octets() {
			inner = append(inner, `\x`+c+d)
		}
	}
	for _, in := range inner {
		for _, s := range []string{in, "'" + in + "'", "'" + in} {
			want, e := unquoted(s)
			if got, d := show.Unquote(s); got != want || d != e {
				t.Fatalf("Unquote(%q) = %q, %d, want %q, %d", s, got, d, want, e)
			}
		}
	}
}

// TestCut: 5.1, a text in quotes that is cut off anywhere is none; nor is one with something behind it.
func TestCut(t *testing.T) {
	for _, s := range []string{"", "a", "'", `\`, "ä\n\x00\xff", "a'b'", "\U0001f600", `\\\`} {
		q := show.Quote(s)
		for cut := range len(q) {
			if got, e := show.Unquote(q[:cut]); got != "" || e != api.ErrSyntax {
				t.Errorf("Unquote(%q) = %q, %d", q[:cut], got, e)
			}
		}
		for _, more := range []string{"'", "a", " ", "\x00", q} {
			if got, e := show.Unquote(q + more); got != "" || e != api.ErrSyntax {
				t.Errorf("Unquote(%q) = %q, %d", q+more, got, e)
			}
		}
	}
}
