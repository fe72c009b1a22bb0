package num_test

import (
	"math/big"
	"regexp"
	"strconv"
	"strings"
	"testing"

	"wattle/api"
	"wattle/num"
)

// form is how a number is written; -0 has it, too, and is none.
var form = regexp.MustCompile(`^-?(0|[1-9][0-9]*)\z`)

// parsed is what Parse has to answer, by another way.
func parsed(s string) (int64, api.Errno) {
	if !form.MatchString(s) || s == "-0" {
		return 0, api.ErrSyntax
	}
	n, ok := new(big.Int).SetString(s, 10)
	if !ok || !n.IsInt64() {
		return 0, api.ErrOverflow
	}
	return n.Int64(), api.OK
}

// read holds Parse of a text, twice (P2), against an answer.
func read(t *testing.T, s string, want int64, e api.Errno) {
	t.Helper()
	for range 2 {
		if n, d := num.Parse(s); n != want || d != e {
			t.Errorf("Parse(%q): %d, %v; asked: %d, %v", s, n, d, want, e)
		}
	}
}

// TestText: 1.3, a number's digits.
func TestText(t *testing.T) {
	for n, want := range map[int64]string{
		0:           "0",
		7:           "7",
		-7:          "-7",
		10:          "10",
		-10:         "-10",
		99:          "99",
		100:         "100",
		1234567890:  "1234567890",
		-9087654321: "-9087654321",
		greatest:    "9223372036854775807",
		least:       "-9223372036854775808",
		least + 1:   "-9223372036854775807",
	} {
		if s := num.Text(n); s != want {
			t.Errorf("Text(%d): %q; asked: %q", n, s, want)
		}
	}
	for _, l := range [][]int64{edges(), small()} {
		for _, n := range l {
			if s := num.Text(n); s != strconv.FormatInt(n, 10) {
				t.Errorf("Text(%d): %q", n, s)
			}
		}
	}
}

// TestParse: 1.3, what is read, and the ends of what is a number.
func TestParse(t *testing.T) {
	read(t, "0", 0, api.OK)
	read(t, "9", 9, api.OK)
	read(t, "-1", -1, api.OK)
	read(t, "100", 100, api.OK)
	read(t, "-1020304050", -1020304050, api.OK)
	read(t, "9223372036854775807", greatest, api.OK)
	read(t, "-9223372036854775808", least, api.OK)
	read(t, "9223372036854775808", 0, api.ErrOverflow)
	read(t, "-9223372036854775809", 0, api.ErrOverflow)
	read(t, "18446744073709551616", 0, api.ErrOverflow)
	read(t, "18446744073709551617", 0, api.ErrOverflow)
	read(t, "-18446744073709551617", 0, api.ErrOverflow)
	read(t, "92233720368547758070", 0, api.ErrOverflow)
	read(t, "-92233720368547758080", 0, api.ErrOverflow)
	read(t, "10000000000000000000000", 0, api.ErrOverflow)
	read(t, strings.Repeat("9", 5000), 0, api.ErrOverflow)
}

// TestParseWrong: 1.3, texts that are no number's: ErrSyntax even where there are too many digits.
func TestParseWrong(t *testing.T) {
	many := strings.Repeat("9", 30)
	for _, s := range []string{
		"", "-", "--1", "+5", "+", "-0", "00", "-00", "007", "-007", "01", "-01",
		" 1", "1 ", "1\n", "\n1", "1-", "1-2", "-1-", "- 1", "1_000", "1.0", "1e3", "0x1", "0b1", "0o1",
		"a", "1a", "-a", "/", ":", "1/", "1:", "\x00", "1\x00", "\xff", "1\xff",
		"\u0661", "\uff11", "1\u0661", "\u22121",
		many + "x", "-" + many + "x", "0" + many, "-0" + many, "+" + many, many + "-", " " + many,
		"0" + strings.Repeat("0", 40),
	} {
		read(t, s, 0, api.ErrSyntax)
	}
	for b := range 256 {
		c := string([]byte{byte(b)})
		for _, s := range []string{c, "-" + c, "1" + c, c + "1", "-1" + c, many + c} {
			want, e := parsed(s)
			read(t, s, want, e)
		}
	}
}

// TestParseShort: 1.3, all texts of up to six of these signs.
func TestParseShort(t *testing.T) {
	const signs = "-+019 a"
	texts := []string{""}
	for range 6 {
		var longer []string
		for _, s := range texts {
			for i := range len(signs) {
				longer = append(longer, s+signs[i:i+1])
			}
		}
		for _, s := range longer {
			want, e := parsed(s)
			if n, d := num.Parse(s); n != want || d != e {
				t.Fatalf("Parse(%q): %d, %v; asked: %d, %v", s, n, d, want, e)
			}
		}
		texts = longer
	}
}

// TestParseEnds: 1.3, whole numbers around both ends, and around where 64 bits wrap round.
func TestParseEnds(t *testing.T) {
	for _, shift := range []uint{62, 63, 64, 65, 67, 128} {
		middle := new(big.Int).Lsh(big.NewInt(1), shift)
		for off := int64(-30); off <= 30; off++ {
			n := new(big.Int).Add(middle, big.NewInt(off))
			for _, s := range []string{n.String(), "-" + n.String(), n.String() + "0", n.String() + "9"} {
				want, e := parsed(s)
				read(t, s, want, e)
			}
		}
	}
}

// TestThereAndBack: 1.4 and P3, Parse of Text is the number; Text of what Parse takes is the text.
func TestThereAndBack(t *testing.T) {
	for _, l := range [][]int64{edges(), small()} {
		for _, n := range l {
			if m, e := num.Parse(num.Text(n)); m != n || e != api.OK {
				t.Errorf("there and back, %d: %d, %v", n, m, e)
			}
		}
	}
	for n := range int64(3000) {
		for _, s := range []string{strconv.FormatInt(n, 10), "-" + strconv.FormatInt(n, 10), "0" + strconv.FormatInt(n, 10)} {
			if m, e := num.Parse(s); e == api.OK && num.Text(m) != s {
				t.Errorf("%q is taken, and told as %q", s, num.Text(m))
			}
		}
	}
}
