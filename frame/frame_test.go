package frame_test

import (
	"bytes"
	"math/big"
	"slices"
	"strings"
	"testing"

	"wattle/api"
	"wattle/frame"
)

// head is four bytes that tell a number, the highest first.
func head(n int64) string { return string(big.NewInt(n).FillBytes(make([]byte, 4))) }

// framed is a load's frame, by the chapter's words.
func framed(load string) string { return head(int64(len(load))) + load }

// filled is a load of n bytes that hardly repeat each other, so that a byte in a wrong place is seen.
func filled(n int) string {
	b := make([]byte, n)
	for i := range b {
		b[i] = byte(i*i/7 + i>>8)
	}
	return string(b)
}

// sizes is how many bytes loads have: few, most, and what is near the ends of each count of bits.
func sizes() []int {
	out := []int{1, 2, 3, 4, 5, 8, 1000, api.MaxFrame - 2}
	for bit := 2; bit <= 15; bit++ {
		out = append(out, 1<<bit-1, 1<<bit)
		if bit < 15 {
			out = append(out, 1<<bit+1)
		}
	}
	slices.Sort(out)
	return slices.Compact(out)
}

// TestWritten: 7.1, loads and their frames, written out.
func TestWritten(t *testing.T) {
	for _, c := range []struct{ load, b string }{
		{"ab", "\x00\x00\x00\x02ab"},
		{"x", "\x00\x00\x00\x01x"},
		{"\x00", "\x00\x00\x00\x01\x00"},
		{"\x00\x00\x00\x00", "\x00\x00\x00\x04\x00\x00\x00\x00"},
		{"\x00\x00\x00\x01x", "\x00\x00\x00\x05\x00\x00\x00\x01x"},
		{"\xff\xfe\n", "\x00\x00\x00\x03\xff\xfe\n"},
		{strings.Repeat("l", 255), "\x00\x00\x00\xff" + strings.Repeat("l", 255)},
		{strings.Repeat("l", 256), "\x00\x00\x01\x00" + strings.Repeat("l", 256)},
		{strings.Repeat("l", 0x1234), "\x00\x00\x12\x34" + strings.Repeat("l", 0x1234)},
		{strings.Repeat("l", 32767), "\x00\x00\x7f\xff" + strings.Repeat("l", 32767)},
		{strings.Repeat("l", 32768), "\x00\x00\x80\x00" + strings.Repeat("l", 32768)},
	} {
		if b, e := frame.Encode([]byte(c.load)); e != api.OK || string(b) != c.b {
			t.Errorf("Encode(%.40q) = %.40x, %d, want %.40x", c.load, b, e, c.b)
		}
		if framed(c.load) != c.b {
			t.Errorf("the test's own frame of %.40q is %.40x, want %.40x", c.load, framed(c.load), c.b)
		}
	}
}

// TestEncode: 7.1, loads of each size and of each byte; P2, asked twice.
func TestEncode(t *testing.T) {
	var loads []string
	for c := range 256 {
		loads = append(loads, string([]byte{byte(c)}), string([]byte{'a', byte(c), 'b'}))
	}
	for _, n := range sizes() {
		loads = append(loads, filled(n), strings.Repeat("\x00", n), strings.Repeat("\xff", n))
	}
	for _, load := range loads {
		for range 2 {
			if b, e := frame.Encode([]byte(load)); e != api.OK || string(b) != framed(load) {
				t.Errorf("Encode(%.40q, of %d bytes) = %.40x, %d, want %.40x", load, len(load), b, e, framed(load))
			}
		}
	}
}

// TestEncodeWrong: 7.1, ErrRange and no frame of what is no load, whatever lies behind its length.
func TestEncodeWrong(t *testing.T) {
	for _, load := range [][]byte{
		nil,
		{},
		[]byte("abc")[:0],
		make([]byte, api.MaxFrame+1),
		make([]byte, api.MaxFrame+2),
		make([]byte, 2*api.MaxFrame),
		make([]byte, 1<<16),
		make([]byte, 1<<16+1),
		make([]byte, 1<<16+api.MaxFrame),
		make([]byte, 1<<24+1),
	} {
		if b, e := frame.Encode(load); e != api.ErrRange || len(b) > 0 {
			t.Errorf("Encode(%d bytes) = %.40x, %d, want %d", len(load), b, e, api.ErrRange)
		}
	}
}

// TestEncodeApart: R3, what is handed in is not changed, what lies behind its length is neither read nor written, and no answer shares memory with it or with another one.
func TestEncodeApart(t *testing.T) {
	memory := []byte("load, and behind")
	want := bytes.Clone(memory)
	b, e := frame.Encode(memory[:4])
	again, _ := frame.Encode(memory[:4])
	if e != api.OK || string(b) != "\x00\x00\x00\x04load" || !bytes.Equal(memory, want) {
		t.Fatalf("Encode = %q, %d, then %q", b, e, memory)
	}
	spoil(b)
	if string(again) != "\x00\x00\x00\x04load" || !bytes.Equal(memory, want) {
		t.Errorf("an answer is spoilt: another one is %q, what was handed in %q", again, memory)
	}
	spoil(memory)
	if string(again) != "\x00\x00\x00\x04load" {
		t.Errorf("what was handed in is spoilt: the answer is %q", again)
	}
}

// spoil writes over bytes, up to their capacity.
func spoil(b []byte) {
	b = b[:cap(b)]
	for i := range b {
		b[i] = 0xaa
	}
}
