package frame_test

import (
	"bytes"
	"slices"
	"strings"
	"testing"

	"wattle/api"
	"wattle/frame"
)

// page is what a reader is to have told of all that came, by the chapter's words of 7.2.
type page struct {
	loads  []string
	held   int
	broken bool
}

// read reads all that came, from its beginning on.
func read(came string) page {
	var p page
	for len(came) >= 4 {
		size := int64(came[0])<<24 + int64(came[1])<<16 + int64(came[2])<<8 + int64(came[3])
		if size == 0 || size > 1<<15 {
			return page{loads: p.loads, broken: true}
		}
		if int64(len(came)) < 4+size {
			break
		}
		p.loads = append(p.loads, came[4:4+size])
		came = came[4+size:]
	}
	p.held = len(came)
	return p
}

// feed feeds a piece and tells what a reader is to answer, out of what it is to have told ahead and behind.
func feed(t *testing.T, r *frame.Reader, piece string, ahead, behind page) {
	t.Helper()
	loads, e := r.Feed([]byte(piece))
	told := make([]string, len(loads))
	for i, load := range loads {
		told[i] = string(load)
	}
	want := api.OK
	if behind.broken {
		want = api.ErrProtocol
	}
	if e != want || !slices.Equal(told, behind.loads[len(ahead.loads):]) {
		t.Errorf("Feed(%.40x, of %d bytes) = %.100q, %d, want %.100q, %d", piece, len(piece), told, e, behind.loads[len(ahead.loads):], want)
	}
	if r.Held() != behind.held || r.Broken() != behind.broken {
		t.Errorf("behind Feed(%.40x, of %d bytes): Held %d, Broken %t, want %d, %t", piece, len(piece), r.Held(), r.Broken(), behind.held, behind.broken)
	}
}

// pieces feeds a new reader all pieces, one behind the other, and holds it against read.
func pieces(t *testing.T, all ...string) {
	t.Helper()
	r := frame.New()
	if r.Held() != 0 || r.Broken() {
		t.Errorf("New: Held %d, Broken %t", r.Held(), r.Broken())
	}
	came, ahead := "", page{}
	for _, piece := range all {
		came += piece
		behind := read(came)
		feed(t, r, piece, ahead, behind)
		ahead = behind
	}
}

// cut is a text in pieces, behind the places whose bits are set.
func cut(s string, places int) []string {
	var out []string
	from := 0
	for at := 1; at < len(s); at++ {
		if places>>(at-1)&1 == 1 {
			out = append(out, s[from:at])
			from = at
		}
	}
	return append(out, s[from:])
}

// texts hands f all texts of n bytes of an alphabet.
func texts(alphabet string, n int, f func(s string)) {
	b := make([]byte, n)
	var grow func(at int)
	grow = func(at int) {
		if at == n {
			f(string(b))
			return
		}
		for i := range len(alphabet) {
			b[at] = alphabet[i]
			grow(at + 1)
		}
	}
	grow(0)
}

// TestWrittenFeeds: 7.2, streams in pieces, and what is told of each, written out.
func TestWrittenFeeds(t *testing.T) {
	type told struct {
		piece string
		loads []string
		e     api.Errno
		held  int
	}
	const wrong = api.ErrProtocol
	for name, feeds := range map[string][]told{
		"the chapter's":           {{"\x00\x00\x00\x01x\x00", []string{"x"}, 0, 1}, {"\x00\x00\x00", nil, wrong, 0}, {"\x00\x00\x00\x01x", nil, wrong, 0}, {"", nil, wrong, 0}},
		"nothing":                 {{"", nil, 0, 0}, {"", nil, 0, 0}},
		"byte by byte":            {{"\x00", nil, 0, 1}, {"\x00", nil, 0, 2}, {"\x00", nil, 0, 3}, {"\x02", nil, 0, 4}, {"a", nil, 0, 5}, {"", nil, 0, 5}, {"b", []string{"ab"}, 0, 0}, {"\x00", nil, 0, 1}},
		"three at once":           {{"\x00\x00\x00\x01a\x00\x00\x00\x02bc\x00\x00\x00\x01\x00", []string{"a", "bc", "\x00"}, 0, 0}},
		"the end of one, two":     {{"\x00\x00\x00\x03a", nil, 0, 5}, {"bc\x00\x00\x00\x01d\x00\x00\x00\x01e\x00\x00", []string{"abc", "d", "e"}, 0, 2}},
		"a frame in a load":       {{"\x00\x00\x00\x05\x00\x00\x00\x01x", []string{"\x00\x00\x00\x01x"}, 0, 0}},
		"a load of noughts":       {{"\x00\x00\x00\x04", nil, 0, 4}, {"\x00\x00\x00\x00", []string{"\x00\x00\x00\x00"}, 0, 0}},
		"0 at once":               {{"\x00\x00\x00\x00", nil, wrong, 0}, {"\x00\x00\x00\x01x", nil, wrong, 0}},
		"0 behind two":            {{"\x00\x00\x00\x01a\x00\x00\x00\x01b\x00\x00\x00\x00\x00\x00\x00\x01c", []string{"a", "b"}, wrong, 0}, {"\x00\x00\x00\x01d", nil, wrong, 0}},
		"0 behind the end of one": {{"\x00\x00\x00\x02a", nil, 0, 5}, {"b\x00\x00\x00\x00", []string{"ab"}, wrong, 0}},
		"too many, not yet told":  {{"\xff\xff\xff", nil, 0, 3}, {"", nil, 0, 3}, {"\xff", nil, wrong, 0}},
		"MaxFrame":                {{"\x00\x00\x80\x00", nil, 0, 4}},
		"MaxFrame and one":        {{"\x00\x00\x80\x01", nil, wrong, 0}},
		"2^31":                    {{"\x80\x00\x00\x00", nil, wrong, 0}},
		"2^24 and one":            {{"\x01\x00\x00\x01x", nil, wrong, 0}},
		"2^16 and one":            {{"\x00\x01\x00\x01x", nil, wrong, 0}},
	} {
		r := frame.New()
		for i, c := range feeds {
			loads, e := r.Feed([]byte(c.piece))
			if e != c.e || len(loads) != len(c.loads) || r.Held() != c.held || r.Broken() != (c.e == wrong) {
				t.Errorf("%s: Feed %d = %q, %d, then Held %d, Broken %t, want %q, %d, %d, %t", name, i, loads, e, r.Held(), r.Broken(), c.loads, c.e, c.held, c.e == wrong)
				break
			}
			for j, load := range loads {
				if string(load) != c.loads[j] {
					t.Errorf("%s: Feed %d, load %d = %q, want %q", name, i, j, load, c.loads[j])
				}
			}
		}
	}
}

// TestShort: 7.2 and 7.3, all short streams of some bytes, in all pieces.
func TestShort(t *testing.T) {
	for _, c := range []struct {
		alphabet string
		most     int
	}{
		{"\x00\x01\x02\x03\x7f\x80\xff", 5},
		{"\x00\x01\x02", 8},
		{"\x00\x01", 12},
	} {
		for n := range c.most + 1 {
			texts(c.alphabet, n, func(s string) {
				for places := range 1 << max(0, n-1) {
					if n < 9 || places%37 == 0 || places&(places-1) == 0 {
						pieces(t, cut(s, places)...)
					}
				}
			})
		}
	}
}

// TestBehind: 7.2 and 7.3, all short streams of some bytes, with whole frames ahead, with empty pieces between.
func TestBehind(t *testing.T) {
	const ahead = "\x00\x00\x00\x01a\x00\x00\x00\x03\x00\x00\x00"
	for n := range 6 {
		texts("\x00\x01\x02\x80", n, func(s string) {
			pieces(t, ahead+s, "", s)
			pieces(t, ahead[:7], ahead[7:]+s, "", s)
			pieces(t, ahead[:11], "", ahead[11:]+s+ahead, s)
			pieces(t, ahead, s, "", ahead)
		})
	}
}

// TestHeads: 7.2, what four bytes tell, near the ends of each count of bits; not a byte earlier.
func TestHeads(t *testing.T) {
	for bit := range 33 {
		for _, beside := range []int64{-1, 0, 1} {
			n := int64(1)<<bit + beside
			if n >= 1<<32 {
				continue
			}
			h := head(n)
			pieces(t, h)
			pieces(t, h[:1], h[1:2], h[2:3], h[3:], "x", "y")
			pieces(t, h[:3], h[3:]+"xy")
			pieces(t, framed("ab")+h[:3], h[3:]+framed("c"))
			pieces(t, framed("ab")+h+framed("c"), framed("d"))
			r := frame.New()
			r.Feed([]byte(h[:3]))
			if r.Broken() || r.Held() != 3 {
				t.Errorf("three bytes of %x: Broken %t, Held %d", h, r.Broken(), r.Held())
			}
			r.Feed([]byte(h[3:]))
			if fits := n >= 1 && n <= 32768; r.Broken() == fits {
				t.Errorf("%x: Broken %t", h, r.Broken())
			}
		}
	}
}

// TestSizes: 7.3 and P3, loads of each size, in pieces of each size.
func TestSizes(t *testing.T) {
	var loads []string
	for _, n := range append(sizes(), 1, api.MaxFrame, api.MaxFrame, 1) {
		loads = append(loads, filled(n))
	}
	var stream []byte
	for _, load := range loads {
		b, _ := frame.Encode([]byte(load))
		stream = append(stream, b...)
	}
	for _, size := range []int{1, 2, 3, 4, 5, 7, 100, 1024, 4096, api.MaxFrame - 1, api.MaxFrame, api.MaxFrame + 3, api.MaxFrame + 4, api.MaxFrame + 5, 1 << 17, len(stream)} {
		r := frame.New()
		var told []string
		for piece := range slices.Chunk(stream, size) {
			l, e := r.Feed(piece)
			for _, load := range l {
				told = append(told, string(load))
			}
			if e != api.OK || r.Broken() {
				t.Fatalf("pieces of %d bytes: %d, Broken %t", size, e, r.Broken())
			}
		}
		if !slices.Equal(told, loads) || r.Held() != 0 {
			t.Errorf("pieces of %d bytes: %d loads, Held %d, want %d", size, len(told), r.Held(), len(loads))
		}
	}
}

// TestCuts: 7.2 and 7.3, a stream of three frames and one that may not be, cut at any two places.
func TestCuts(t *testing.T) {
	stream := framed("a") + framed("\x00\x00\x00\x00\x00") + framed(filled(9)) + head(api.MaxFrame+1) + framed("b")
	for i := range len(stream) + 1 {
		for j := i; j <= len(stream); j++ {
			pieces(t, stream[:i], stream[i:j], stream[j:])
		}
	}
	largest := framed(filled(300)) + framed(filled(api.MaxFrame)) + framed("a")
	for _, i := range []int{0, 1, 3, 4, 5, 303, 304, 305, 307, 308, 309, 310, 3000, len(largest) - 6, len(largest) - 5, len(largest) - 4, len(largest) - 1} {
		pieces(t, largest[:i], largest[i:])
		pieces(t, largest[:i], largest[i:]+head(0))
	}
}

// TestBroken: 7.2, once a reader is broken it stays so, whatever comes, and holds nothing.
func TestBroken(t *testing.T) {
	for _, wrong := range []string{head(0), head(api.MaxFrame + 1), head(1<<32 - 1), framed("ab") + head(0) + framed("cd")} {
		r := frame.New()
		r.Feed([]byte(wrong))
		for _, b := range []string{"", "\x00", "\x00\x00\x01a", framed("a"), framed("a") + framed("b"), head(0), strings.Repeat("\x00\x00\x00\x01x", 1<<12), filled(1 << 17)} {
			for range 3 {
				loads, e := r.Feed([]byte(b))
				if len(loads) > 0 || e != api.ErrProtocol || !r.Broken() || r.Held() != 0 {
					t.Errorf("behind %x: Feed(%.40x) = %.40q, %d, then Broken %t, Held %d", wrong, b, loads, e, r.Broken(), r.Held())
				}
			}
		}
	}
}

// TestReaders: P2, what one reader is fed is nothing to another one; a reader's own state is asked as often as one likes.
func TestReaders(t *testing.T) {
	one, two, three := frame.New(), frame.New(), frame.New()
	one.Feed([]byte("\x00\x00\x00\x02a"))
	two.Feed([]byte(head(0)))
	for range 3 {
		if one.Held() != 5 || two.Held() != 0 || three.Held() != 0 || one.Broken() || !two.Broken() || three.Broken() {
			t.Fatalf("Held %d, %d, %d, Broken %t, %t, %t", one.Held(), two.Held(), three.Held(), one.Broken(), two.Broken(), three.Broken())
		}
	}
	if l, e := one.Feed([]byte("b")); len(l) != 1 || string(l[0]) != "ab" || e != api.OK {
		t.Errorf("Feed = %q, %d", l, e)
	}
	if l, e := three.Feed([]byte(framed("c"))); len(l) != 1 || string(l[0]) != "c" || e != api.OK {
		t.Errorf("Feed = %q, %d", l, e)
	}
}

// TestFeedApart: R3, what is fed is neither changed nor kept, what lies behind its length is neither read nor written, and no load shares memory with it, with another load, with what the reader keeps.
func TestFeedApart(t *testing.T) {
	stream := framed("first") + framed("second") + framed(filled(300)) + framed("last")
	want := read(stream).loads
	for size := 1; size <= len(stream); size++ {
		r := frame.New()
		var told [][]byte
		for from := 0; from < len(stream); from += size {
			piece := stream[from:min(from+size, len(stream))]
			memory := []byte(piece + "\x00\x00\x00\x01behind")
			whole := bytes.Clone(memory)
			loads, e := r.Feed(memory[:len(piece)])
			if e != api.OK || !bytes.Equal(memory, whole) {
				t.Fatalf("Feed(%q) = %d, then %q", piece, e, memory)
			}
			spoil(memory)
			told = append(told, loads...)
			// Every second load is spoilt at once, while the reader may still hold the next one's beginning.
			for i := len(told) - len(loads); i < len(told); i++ {
				if i%2 == 0 && string(told[i]) != want[i] {
					t.Errorf("pieces of %d bytes: load %d = %q, want %q", size, i, told[i], want[i])
				}
				if i%2 == 0 {
					spoil(append(told[i], "more"...))
					spoil(told[i])
				}
			}
		}
		for i := 1; i < len(told); i += 2 {
			if string(told[i]) != want[i] {
				t.Errorf("pieces of %d bytes, others spoilt: load %d = %q, want %q", size, i, told[i], want[i])
			}
		}
		if len(told) != len(want) {
			t.Errorf("pieces of %d bytes: %d loads, want %d", size, len(told), len(want))
		}
	}
}

// TestOftenFed: P1, a stream that comes byte by byte ends in time: what came of a frame is not copied anew with each byte.
func TestOftenFed(t *testing.T) {
	stream := []byte(strings.Repeat(framed(filled(api.MaxFrame)), 3))
	r := frame.New()
	count := 0
	rooms := testing.AllocsPerRun(1, func() {
		for i := range stream {
			loads, _ := r.Feed(stream[i : i+1])
			count += len(loads)
		}
	})
	// It is run twice: once to warm up.
	if count != 6 || r.Held() != 0 {
		t.Errorf("%d loads, Held %d, want 6, 0", count, r.Held())
	}
	if rooms > 1000 {
		t.Errorf("room is made %.0f times for %d bytes", rooms, len(stream))
	}
}
