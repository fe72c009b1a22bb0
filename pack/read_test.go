package pack_test

import (
	"bytes"
	"math/big"
	"strings"
	"testing"

	"wattle/api"
	"wattle/pack"
)

// page is bytes that are read by the chapter's words of 4.2, one behind the other, and what is wrong with them.
type page struct {
	b     []byte
	at    int
	parts int
	e     api.Errno
}

// fail holds the first thing that is wrong.
func (p *page) fail(e api.Errno) {
	if p.e == api.OK {
		p.e = e
	}
}

// next is the next n bytes, or none.
func (p *page) next(n *big.Int) []byte {
	if n.Cmp(big.NewInt(int64(len(p.b)-p.at))) > 0 {
		p.fail(api.ErrMore)
	}
	if p.e != api.OK {
		return nil
	}
	p.at += int(n.Int64())
	return p.b[p.at-int(n.Int64()) : p.at]
}

// sevens is the next number in sevens: as soon as ten bytes are not its end, it is not right.
func (p *page) sevens() *big.Int {
	n := new(big.Int)
	for size := 1; ; size++ {
		c := p.next(big.NewInt(1))
		if p.e != api.OK {
			return n
		}
		digit := new(big.Int).Lsh(big.NewInt(int64(c[0]%128)), uint(7*(size-1)))
		n.Add(n, digit)
		last := c[0] < 128
		if n.BitLen() > 64 || last && size > 1 && c[0] == 0 || !last && size == 10 {
			p.fail(api.ErrSyntax)
		}
		if last || p.e != api.OK {
			return n
		}
	}
}

// within fails, unless n is from low to high.
func (p *page) within(n *big.Int, low int64, high *big.Int) {
	if n.Cmp(big.NewInt(low)) < 0 || n.Cmp(high) > 0 {
		p.fail(api.ErrSyntax)
	}
}

// value is the next value, at that depth.
func (p *page) value(deep int) (v api.Value) {
	c := p.next(big.NewInt(1))
	if p.e != api.OK {
		return v
	}
	p.parts++
	if c[0] > 8 || deep > 32 || p.parts > 4096 {
		p.fail(api.ErrSyntax)
		return v
	}
	v.Kind = []int{api.KNull, api.KBool, api.KBool, api.KInt, api.KStr, api.KList, api.KMap, api.KNode, api.KEdge}[c[0]]
	v.Bool = c[0] == 2
	if c[0] < 3 {
		return v
	}
	n := p.sevens()
	switch v.Kind {
	case api.KInt:
		half, odd := new(big.Int).DivMod(n, big.NewInt(2), new(big.Int))
		v.Int = new(big.Int).Add(half, odd).Int64()
		if odd.Sign() > 0 {
			v.Int = new(big.Int).Neg(new(big.Int).Add(half, odd)).Int64()
		}
	case api.KStr:
		v.Str = string(p.next(n))
	case api.KNode, api.KEdge:
		p.within(n, 1, big.NewInt(1<<63-1))
		v.Int = n.Int64()
	default:
		p.values(&v, n, deep)
	}
	return v
}

// values is the next n values of a list or a map at that depth.
func (p *page) values(v *api.Value, n *big.Int, deep int) {
	for i := new(big.Int); i.Cmp(n) < 0 && p.e == api.OK; i.Add(i, big.NewInt(1)) {
		if v.Kind == api.KMap {
			size := p.sevens()
			p.within(size, 1, big.NewInt(64))
			key := string(p.next(size))
			if len(v.Keys) > 0 && key <= v.Keys[len(v.Keys)-1] {
				p.fail(api.ErrSyntax)
			}
			v.Keys = append(v.Keys, key)
		}
		v.List = append(v.List, p.value(deep+1))
	}
}

// read is what Decode is to answer.
func read(b []byte) (api.Value, int, api.Errno) {
	p := page{b: b}
	v := p.value(1)
	if p.e != api.OK {
		return null, 0, p.e
	}
	return v, p.at, api.OK
}

// check holds Decode against read, and against Encode.
func check(t *testing.T, b []byte) {
	want, size, wrong := read(b)
	got, n, e := pack.Decode(b)
	if e != wrong || n != size || told(got) != told(want) {
		t.Errorf("Decode(%.200x) = %.200s, %d, %d, want %.200s, %d, %d", b, told(got), n, e, told(want), size, wrong)
	}
	if e != api.OK {
		return
	}
	if again, e := pack.Encode(got); e != api.OK || !bytes.Equal(again, b[:n]) {
		t.Errorf("Encode of what Decode read of %.200x: %.200x, %d", b, again, e)
	}
}

// texts hands f all texts of at most so many bytes of an alphabet, in one memory.
func texts(alphabet string, most int, f func(b []byte)) {
	var grow func(b []byte)
	grow = func(b []byte) {
		f(b)
		if len(b) == most {
			return
		}
		for i := range len(alphabet) {
			grow(append(b, alphabet[i]))
		}
	}
	grow(make([]byte, 0, most))
}

// TestShort: 4.2 and 4.3, of all short bytes.
func TestShort(t *testing.T) {
	var all strings.Builder
	for c := range 256 {
		all.WriteByte(byte(c))
	}
	for _, c := range []struct {
		alphabet string
		most     int
	}{
		{all.String(), 2},
		{"\x00\x01\x02\x03\x04\x05\x06\x07\x08\x09\x40\x41a\x7f\x80\x81\xff", 4},
		{"\x00\x01\x02\x05\x06ab", 6},
		{"\x00\x01\x06a", 9},
	} {
		texts(c.alphabet, c.most, func(b []byte) { check(t, b) })
	}
}

// TestOneOff: 4.2 and 4.3, of the bytes of values with one byte changed, left out, or put in.
func TestOneOff(t *testing.T) {
	for _, v := range values() {
		b, _ := pack.Encode(v)
		if len(b) > 100 {
			continue
		}
		for at := range b {
			check(t, append(bytes.Clone(b[:at]), b[at+1:]...))
			for _, c := range []byte{0, 1, 2, 3, 4, 5, 6, 7, 8, 9, 'a', 64, 65, 127, 128, 129, 255} {
				changed := bytes.Clone(b)
				changed[at] = c
				check(t, changed)
				check(t, append(append(bytes.Clone(b[:at]), c), b[at:]...))
			}
		}
	}
}

// TestSevens: 4.2, a number in sevens: of each size, its last byte of each kind, for each of those that read one.
func TestSevens(t *testing.T) {
	for _, front := range []string{"\x03", "\x04", "\x05", "\x06", "\x07", "\x08", "\x06\x01", "\x05\x01\x03"} {
		for size := range 13 {
			for _, c := range []byte{0x80, 0x81, 0xff} {
				for last := range 256 {
					b := append([]byte(front), bytes.Repeat([]byte{c}, size)...)
					check(t, append(b, byte(last)))
					check(t, append(b, byte(last), 0, 0))
				}
			}
		}
	}
}

// TestDecodeWrong: 4.2, what is wrong, and that the first thing that is wrong is told.
func TestDecodeWrong(t *testing.T) {
	rep := strings.Repeat
	long, most := rep("k", 65), rep("\xff", 9)+"\x01"
	deep, maps := rep("\x05\x01", 32), rep("\x06\x01\x01k", 32)
	full := "\x05\xff\x7f" + rep("\x00", 4095)
	for _, c := range []struct {
		name, b string
		want    api.Errno
	}{
		{"nothing", "", api.ErrMore},
		{"no tag", "\x09", api.ErrSyntax},
		{"no tag, the last", "\xff\x00", api.ErrSyntax},
		{"no tag, in a list", "\x05\x01\x09", api.ErrSyntax},
		{"no tag, in a map", "\x06\x01\x01a\x80", api.ErrSyntax},
		{"a tag alone, of a number", "\x03", api.ErrMore},
		{"a tag alone, of a text", "\x04", api.ErrMore},
		{"a tag alone, of a list", "\x05", api.ErrMore},
		{"a tag alone, of a map", "\x06", api.ErrMore},
		{"a tag alone, of a node", "\x07", api.ErrMore},
		{"a tag alone, of an edge", "\x08", api.ErrMore},
		{"a number that goes on", "\x03\x80", api.ErrMore},
		{"a number of nine bytes that goes on", "\x03" + rep("\x80", 9), api.ErrMore},
		{"a number of ten bytes that goes on", "\x03" + rep("\x80", 10), api.ErrSyntax},
		{"a number of eleven bytes", "\x03" + rep("\x80", 10) + "\x01", api.ErrSyntax},
		{"2^64", "\x03" + rep("\x80", 9) + "\x02", api.ErrSyntax},
		{"2^64, as a text's length", "\x04" + rep("\x80", 9) + "\x02", api.ErrSyntax},
		{"a last byte 0", "\x03\x80\x00", api.ErrSyntax},
		{"a last byte 0, the third", "\x03\x81\x80\x00", api.ErrSyntax},
		{"a last byte 0, the tenth", "\x03" + most[:9] + "\x00", api.ErrSyntax},
		{"a last byte 0, of a list's length", "\x05\x80\x00", api.ErrSyntax},
		{"a last byte 0, of a node", "\x07\x81\x00", api.ErrSyntax},
		{"a text that is shorter", "\x04\x03ab", api.ErrMore},
		{"a text of 2^64 - 1 bytes", "\x04" + most + "ab", api.ErrMore},
		{"a text of 2^63 bytes", "\x04" + rep("\x80", 9) + "\x01", api.ErrMore},
		{"a text of 2^32 bytes", "\x04\x80\x80\x80\x80\x10a", api.ErrMore},
		{"a list that is shorter", "\x05\x02\x00", api.ErrMore},
		{"a list of 2^64 - 1", "\x05" + most, api.ErrMore},
		{"a list of 2^64 - 1, and no tag", "\x05" + most + "\x00\x09", api.ErrSyntax},
		{"a map of 2^64 - 1", "\x06" + most + "\x01a\x00", api.ErrMore},
		{"a map that is shorter", "\x06\x02\x01a\x00", api.ErrMore},
		{"a map without a value", "\x06\x01\x01a", api.ErrMore},
		{"node 0", "\x07\x00", api.ErrSyntax},
		{"edge 0", "\x08\x00", api.ErrSyntax},
		{"node 2^63", "\x07" + rep("\x80", 9) + "\x01", api.ErrSyntax},
		{"edge 2^63", "\x08" + rep("\x80", 9) + "\x01", api.ErrSyntax},
		{"node 2^64 - 1", "\x07" + most, api.ErrSyntax},
		{"an empty key", "\x06\x01\x00", api.ErrSyntax},
		{"a key of 65 bytes", "\x06\x01\x41" + long + "\x00", api.ErrSyntax},
		{"a key of 65 bytes, of which none is there", "\x06\x01\x41", api.ErrSyntax},
		{"a key of 2^64 - 1 bytes", "\x06\x01" + most, api.ErrSyntax},
		{"a key of 64 bytes that is shorter", "\x06\x01\x40" + long[:63], api.ErrMore},
		{"a key twice", "\x06\x02\x01a\x00\x01a\x00", api.ErrSyntax},
		{"a key twice, and no more", "\x06\x02\x01a\x00\x01a", api.ErrSyntax},
		{"keys that fall", "\x06\x02\x01b\x00\x01a\x00", api.ErrSyntax},
		{"keys that fall at the end", "\x06\x03\x01a\x00\x01c\x00\x01b\x00", api.ErrSyntax},
		{"keys that fall, the longer one ahead", "\x06\x02\x02ab\x00\x01a\x00", api.ErrSyntax},
		{"a key that is shorter, and would fall", "\x06\x02\x01b\x00\x02a", api.ErrMore},
		{"33 deep", deep + "\x00", api.ErrSyntax},
		{"33 deep, and no more", deep, api.ErrMore},
		{"33 deep, and no tag", deep + "\x09", api.ErrSyntax},
		{"33 deep, a list", deep + "\x05", api.ErrSyntax},
		{"33 deep, maps", maps + "\x00", api.ErrSyntax},
		{"33 deep, maps, and no more", maps, api.ErrMore},
		{"33 deep, behind others", "\x05\x02\x00" + deep[2:] + "\x00", api.ErrSyntax},
		{"2^17 deep", rep("\x05\x01", 1<<17), api.ErrSyntax},
		{"2^17 deep, maps", rep("\x06\x01\x01k", 1<<17), api.ErrSyntax},
		{"4096 parts, and no more", full, api.ErrMore},
		{"4097 parts", full + "\x00", api.ErrSyntax},
		{"4097 parts, the last a text", full + "\x04", api.ErrSyntax},
		{"4097 parts, in two lists", "\x05\x02\x05\x83\x20" + rep("\x00", 4094) + "\x05\x00", api.ErrSyntax},
		{"2^20 parts", "\x05" + most + rep("\x00", 1<<20), api.ErrSyntax},
	} {
		got, n, e := pack.Decode([]byte(c.b))
		if e != c.want || n != 0 || told(got) != told(null) {
			t.Errorf("%s: Decode(%.200x) = %.200s, %d, %d, want null, 0, %d", c.name, c.b, told(got), n, e, c.want)
		}
		if _, _, e := read([]byte(c.b)); e != c.want {
			t.Errorf("%s: the test's own reader tells %d, want %d", c.name, e, c.want)
		}
	}
}

// TestFull: 4.2, the most parts and the greatest depth are read, with maps' keys, which are no parts.
func TestFull(t *testing.T) {
	rep := strings.Repeat
	for name, b := range map[string]string{
		"4096 parts":                     "\x05\xff\x1f" + rep("\x00", 4095),
		"4096 parts, in two lists":       "\x05\x02\x05\xfd\x1f" + rep("\x00", 4093) + "\x00",
		"32 deep":                        rep("\x05\x01", 31) + "\x08\x01",
		"32 deep, maps":                  rep("\x06\x01\x01k", 31) + "\x04\x01k",
		"32 deep, twice":                 "\x05\x02" + rep(rep("\x05\x01", 30)+"\x00", 2),
		"a text longer than other parts": "\x04\x80\x80\x40" + rep("t", 1<<20),
	} {
		v, n, e := pack.Decode([]byte(b + "\x00"))
		if e != api.OK || n != len(b) || written(v) != b {
			t.Errorf("%s: Decode = %.200s, %d, %d", name, told(v), n, e)
		}
		check(t, []byte(b))
	}
}
