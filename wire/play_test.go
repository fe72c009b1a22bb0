package wire_test

import (
	"math"
	"strconv"
	"strings"
	"testing"

	"wattle/api"
	"wattle/wire"
)

// call is a call on a network: which one, on which connection, with how many, with what.
type call struct {
	name string
	c    int
	n    int
	b    string
}

// answer is what a call answers.
type answer struct {
	n int
	b string
	e api.Errno
}

// String is a call as a text.
func (x call) String() string {
	return x.name + "(" + strconv.Itoa(x.c) + ", " + strconv.Itoa(x.n) + ", " + strconv.Quote(x.b) + ")"
}

// ask calls a network.
func ask(n *wire.Net, x call) answer {
	switch x.name {
	case "Open":
		c, e := n.Open()
		return answer{n: c, e: e}
	case "Send":
		return answer{e: n.Send(x.c, []byte(x.b))}
	case "Take":
		b, e := n.Take(x.c, x.n)
		return answer{b: string(b), e: e}
	case "Answer":
		return answer{e: n.Answer(x.c, []byte(x.b))}
	case "Cut":
		return answer{e: n.Cut(x.c, x.n)}
	case "Drop":
		return answer{e: n.Drop(x.c)}
	}
	panic("no such call: " + x.name)
}

// course is all that happened to a connection.
type course struct {
	sent  string // what still comes of it, if it is cut
	taken int
	back  string
	cut   bool
	gone  bool
}

// way is what is on the way.
func (k *course) way() string { return k.sent[k.taken:] }

// over tells whether a connection is cut, and nothing is on the way.
func (k *course) over() bool { return k.cut && k.way() == "" }

// past is what happened to each connection, the first one's first: by the chapter's words.
type past []*course

// at is a connection that is there, or none.
func (p past) at(c int) *course {
	if c < 1 || c > len(p) || p[c-1].gone {
		return nil
	}
	return p[c-1]
}

// open is 9.1.
func (p *past) open() answer {
	others := 0
	for _, k := range *p {
		if !k.gone && !k.over() {
			others++
		}
	}
	if others >= 16 {
		return answer{e: api.ErrRoom}
	}
	*p = append(*p, &course{})
	return answer{n: len(*p)}
}

// sound is ErrNone and ErrStale as of Send.
func (p past) sound(c int) api.Errno {
	switch k := p.at(c); {
	case k == nil:
		return api.ErrNone
	case k.cut:
		return api.ErrStale
	}
	return api.OK
}

// do is what a call is to answer; the rest of 9.2 to 9.4.
func (p *past) do(x call) answer {
	k := p.at(x.c)
	switch x.name {
	case "Open":
		return p.open()
	case "Send":
		e := p.sound(x.c)
		if e == api.OK {
			k.sent += x.b
		}
		return answer{e: e}
	case "Answer":
		e := p.sound(x.c)
		if e == api.OK {
			k.back += x.b
		}
		return answer{e: e}
	case "Cut":
		e := p.sound(x.c)
		if e == api.OK && x.n < 0 {
			e = api.ErrRange
		}
		if e == api.OK {
			k.cut = true
			if x.n < len(k.way()) {
				k.sent = k.sent[:k.taken+x.n]
			}
		}
		return answer{e: e}
	case "Take":
		return p.take(k, x.n)
	}
	switch {
	case k == nil:
		return answer{e: api.ErrNone}
	case !k.over():
		return answer{e: api.ErrBusy}
	}
	k.gone = true
	return answer{}
}

// take is Take of 9.2.
func (p *past) take(k *course, most int) answer {
	switch {
	case k == nil:
		return answer{e: api.ErrNone}
	case most < 0:
		return answer{e: api.ErrRange}
	}
	b := k.way()
	if most < len(b) {
		b = b[:most]
	}
	k.taken += len(b)
	return answer{b: b}
}

// seen holds what is seen of each connection, and of some that are none, against what is to be.
func seen(t *testing.T, n *wire.Net, p past) bool {
	t.Helper()
	right := true
	for c := -1; c <= len(p)+2; c++ {
		size, got, over := 0, "", false
		if k := p.at(c); k != nil {
			size, got, over = len(k.way()), k.back, k.over()
		}
		if n.Flight(c) != size || string(n.Got(c)) != got || n.Over(c) != over {
			t.Errorf("connection %d: Flight %d, Got %.60q, Over %t, want %d, %.60q, %t", c, n.Flight(c), n.Got(c), n.Over(c), size, got, over)
			right = false
		}
	}
	return right
}

// play plays calls on a new network; each is held against what happened, and what is seen behind it, too, or, if it is lasting, behind the last one alone.
func play(t *testing.T, calls []call, lasting bool) {
	t.Helper()
	n, p := wire.New(), past{}
	for i, x := range calls {
		got, want := ask(n, x), p.do(x)
		right := got == want
		if !right {
			t.Errorf("%s = %d, %.60q, %d, want %d, %.60q, %d", x, got.n, got.b, got.e, want.n, want.b, want.e)
		}
		if !lasting || i == len(calls)-1 {
			right = seen(t, n, p) && right
		}
		if !right {
			t.Errorf("these were the calls: %v", calls[max(0, i-20):i+1])
			return
		}
	}
}

// TestShort: 9.1 to 9.5, all short plays of some calls.
func TestShort(t *testing.T) {
	some := []call{
		{name: "Open"},
		{name: "Send", c: 1, b: "ab"},
		{name: "Send", c: 2, b: "c"},
		{name: "Take", c: 1, n: 1},
		{name: "Take", c: 1, n: 9},
		{name: "Take", c: 2, n: 1},
		{name: "Answer", c: 1, b: "x"},
		{name: "Cut", c: 1},
		{name: "Cut", c: 1, n: 1},
		{name: "Cut", c: 1, n: 9},
		{name: "Cut", c: 2, n: 1},
		{name: "Drop", c: 1},
	}
	for most := 1; most <= 4; most++ {
		sequences(t, []call{{name: "Open"}, {name: "Open"}}, some, most)
	}
	few := []call{some[0], some[1], some[3], some[6], some[7], some[8], some[11]}
	sequences(t, []call{{name: "Open"}}, few, 6)
	sequences(t, nil, few, 4)
}

// sequences plays all sequences of so many calls, behind others.
func sequences(t *testing.T, ahead, some []call, count int) {
	if count == 0 {
		play(t, ahead, true)
		return
	}
	for _, x := range some {
		sequences(t, append(ahead[:len(ahead):len(ahead)], x), some, count-1)
	}
}

// TestEdges: 9.1 to 9.4 and R5, each call with each number that is at an edge, or beside, at connections of all sorts.
func TestEdges(t *testing.T) {
	sorts := []call{
		{name: "Open"}, {name: "Open"}, {name: "Open"}, {name: "Open"}, {name: "Open"}, {name: "Open"}, {name: "Open"},
		{name: "Send", c: 2, b: "abcd"}, {name: "Answer", c: 2, b: "back"},
		{name: "Send", c: 3, b: "abcd"}, {name: "Answer", c: 3, b: "back"}, {name: "Cut", c: 3, n: 3},
		{name: "Send", c: 4, b: "abcd"}, {name: "Answer", c: 4, b: "back"}, {name: "Cut", c: 4},
		{name: "Cut", c: 5, n: 5}, {name: "Drop", c: 5},
		{name: "Send", c: 6, b: "abcd"}, {name: "Take", c: 6, n: 4},
	}
	for _, name := range []string{"Send", "Take", "Answer", "Cut", "Drop"} {
		for _, c := range []int{0, 1, 2, 3, 4, 5, 6, 7, 8, 9, 16, 17, -1, -2, 1<<32 + 2, -1<<32 + 2, math.MaxInt, math.MinInt} {
			for _, n := range []int{0, 1, 2, 3, 4, 5, -1, -2, 1<<32 + 1, -1 << 32, math.MaxInt, math.MinInt} {
				x := call{name: name, c: c, n: n, b: "more"}
				play(t, append(sorts[:len(sorts):len(sorts)], x, x, call{name: "Take", c: c, n: 100}, x, call{name: "Open"}), false)
			}
		}
	}
}

// dice is numbers that seem to follow no rule, the same in each run.
type dice uint64

// throw is a number from 0 to below sides.
func (d *dice) throw(sides int) int {
	*d = *d*6364136223846793005 + 1442695040888963407
	return int(uint64(*d) >> 33 % uint64(sides))
}

// chance is a call, on one of the connections from 1 to most.
func chance(d *dice, most int) call {
	x := call{c: 1 + d.throw(most), n: d.throw(9) - 1}
	size := d.throw(7)
	if d.throw(40) == 0 {
		x.n, size = d.throw(3000), d.throw(3000)
	}
	for i := range size {
		x.b += string(rune('a' + (i*i+size)%26))
	}
	x.name = []string{"Open", "Send", "Send", "Send", "Take", "Take", "Take", "Answer", "Cut", "Drop"}[d.throw(10)]
	return x
}

// TestLong: 9.1 to 9.5, long plays on many connections, up to the room that there is.
func TestLong(t *testing.T) {
	d := dice(9)
	for round := range 60 {
		var calls []call
		opens, most := 0, 2+round
		for len(calls) < 1500 {
			x := chance(&d, most)
			// Cuts that are rare let the network be full.
			if x.name == "Cut" && d.throw(4) > 0 {
				continue
			}
			if x.name == "Open" {
				opens++
			}
			calls = append(calls, x)
		}
		if opens < 50 {
			t.Fatalf("round %d: %d opens", round, opens)
		}
		play(t, calls, false)
	}
}

// TestPieces: 9.5, what is sent in pieces of any size and taken in pieces of any size is the same bytes; behind a cut just the first keep of them.
func TestPieces(t *testing.T) {
	all := strings.Repeat("0123456789", 3) + "\x00\xff ä"
	for _, sizes := range [][2]int{{1, 1}, {1, 3}, {3, 1}, {4, 7}, {7, 4}, {5, 100}, {100, 5}, {100, 100}} {
		for behind := 0; behind <= len(all); behind += 5 {
			for keep := 0; keep <= len(all)+1; keep++ {
				n := wire.New()
				n.Open()
				n.Open()
				for at := 0; at < len(all); at += sizes[0] {
					n.Send(2, []byte(all[at:min(at+sizes[0], len(all))]))
					n.Send(1, []byte("other"))
				}
				first, _ := n.Take(2, behind)
				if e := n.Cut(2, keep); e != api.OK {
					t.Fatalf("Cut = %d", e)
				}
				taken := string(first)
				for count := n.Flight(2); count > 0; count = n.Flight(2) {
					b, e := n.Take(2, sizes[1])
					if e != api.OK || len(b) != min(sizes[1], count) {
						t.Fatalf("Take = %q, %d", b, e)
					}
					taken += string(b)
				}
				if want := all[:min(behind+keep, len(all))]; taken != want || !n.Over(2) {
					t.Errorf("pieces of %v, Cut(%d) behind %d: %q, Over %t, want %q", sizes, keep, behind, taken, n.Over(2), want)
				}
			}
		}
	}
}
