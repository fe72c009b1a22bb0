package wire_test

import (
	"bytes"
	"math"
	"strings"
	"testing"

	"wattle/api"
	"wattle/wire"
)

// TestWritten: 9.1 to 9.4, plays written out, with what each call answers.
func TestWritten(t *testing.T) {
	const none, stale, out, busy = api.ErrNone, api.ErrStale, api.ErrRange, api.ErrBusy
	type step struct {
		do   call
		want answer
	}
	for name, steps := range map[string][]step{
		"the chapter's": {
			{call{"Open", 0, 0, ""}, answer{n: 1}}, {call{"Send", 1, 0, "abc"}, answer{}}, {call{"Take", 1, 2, ""}, answer{b: "ab"}}, {call{"Cut", 1, 0, ""}, answer{}},
			{call{"Send", 1, 0, "d"}, answer{e: stale}}, {call{"Drop", 1, 0, ""}, answer{}}, {call{"Take", 1, 1, ""}, answer{e: none}}, {call{"Open", 0, 0, ""}, answer{n: 2}},
		},
		"nobody is there": {
			{call{"Send", 1, 0, "a"}, answer{e: none}}, {call{"Take", 1, 1, ""}, answer{e: none}}, {call{"Take", 1, -1, ""}, answer{e: none}}, {call{"Answer", 1, 0, "a"}, answer{e: none}},
			{call{"Cut", 1, 0, ""}, answer{e: none}}, {call{"Cut", 1, -1, ""}, answer{e: none}}, {call{"Drop", 1, 0, ""}, answer{e: none}}, {call{"Open", 0, 0, ""}, answer{n: 1}},
			{call{"Send", 0, 0, "a"}, answer{e: none}}, {call{"Send", 2, 0, "a"}, answer{e: none}}, {call{"Send", -1, 0, "a"}, answer{e: none}},
		},
		"numbers below 0": {
			{call{"Open", 0, 0, ""}, answer{n: 1}}, {call{"Send", 1, 0, "abc"}, answer{}}, {call{"Take", 1, -1, ""}, answer{e: out}}, {call{"Cut", 1, -1, ""}, answer{e: out}},
			{call{"Send", 1, 0, "d"}, answer{}}, {call{"Cut", 1, 2, ""}, answer{}}, {call{"Cut", 1, -1, ""}, answer{e: stale}}, {call{"Take", 1, -1, ""}, answer{e: out}},
			{call{"Take", 1, 0, ""}, answer{}}, {call{"Take", 1, 9, ""}, answer{b: "ab"}}, {call{"Take", 1, 9, ""}, answer{}}, {call{"Take", 1, -1, ""}, answer{e: out}},
		},
		"a cut that leaves some": {
			{call{"Open", 0, 0, ""}, answer{n: 1}}, {call{"Send", 1, 0, "ab"}, answer{}}, {call{"Send", 1, 0, "cd"}, answer{}}, {call{"Take", 1, 1, ""}, answer{b: "a"}}, {call{"Cut", 1, 2, ""}, answer{}},
			{call{"Answer", 1, 0, "x"}, answer{e: stale}}, {call{"Drop", 1, 0, ""}, answer{e: busy}}, {call{"Cut", 1, 0, ""}, answer{e: stale}}, {call{"Take", 1, 1, ""}, answer{b: "b"}},
			{call{"Drop", 1, 0, ""}, answer{e: busy}}, {call{"Take", 1, 1, ""}, answer{b: "c"}}, {call{"Take", 1, 1, ""}, answer{}}, {call{"Drop", 1, 0, ""}, answer{}}, {call{"Drop", 1, 0, ""}, answer{e: none}},
		},
		"not cut": {
			{call{"Open", 0, 0, ""}, answer{n: 1}}, {call{"Drop", 1, 0, ""}, answer{e: busy}}, {call{"Take", 1, 5, ""}, answer{}}, {call{"Send", 1, 0, ""}, answer{}}, {call{"Take", 1, 5, ""}, answer{}},
			{call{"Drop", 1, 0, ""}, answer{e: busy}}, {call{"Cut", 1, 7, ""}, answer{}}, {call{"Send", 1, 0, ""}, answer{e: stale}}, {call{"Answer", 1, 0, ""}, answer{e: stale}}, {call{"Drop", 1, 0, ""}, answer{}},
		},
	} {
		n, p := wire.New(), past{}
		for i, s := range steps {
			if got, told := ask(n, s.do), p.do(s.do); got != s.want || told != s.want {
				t.Errorf("%s: step %d, %s = %v, want %v, and by what happened %v", name, i, s.do, got, s.want, told)
			}
		}
	}
}

// TestSeen: 9.2 to 9.4, Flight, Got and Over, written out.
func TestSeen(t *testing.T) {
	n := wire.New()
	look := func(c, size int, got string, over bool) {
		t.Helper()
		for range 2 {
			if n.Flight(c) != size || string(n.Got(c)) != got || n.Over(c) != over {
				t.Errorf("connection %d: Flight %d, Got %q, Over %t, want %d, %q, %t", c, n.Flight(c), n.Got(c), n.Over(c), size, got, over)
			}
		}
	}
	look(1, 0, "", false)
	n.Open()
	look(0, 0, "", false)
	look(1, 0, "", false)
	n.Send(1, []byte("abcd"))
	look(1, 4, "", false)
	n.Answer(1, []byte("xy"))
	n.Answer(1, []byte("z"))
	look(1, 4, "xyz", false)
	n.Open()
	n.Answer(2, []byte("\x00\xff"))
	n.Send(2, nil)
	look(2, 0, "\x00\xff", false)
	n.Cut(1, 3)
	look(1, 3, "xyz", false)
	n.Take(1, 3)
	look(1, 0, "xyz", true)
	n.Drop(1)
	look(1, 0, "", false)
	n.Cut(2, 0)
	look(2, 0, "\x00\xff", true)
	for _, c := range []int{-1, 3, math.MinInt, math.MaxInt} {
		look(c, 0, "", false)
	}
}

// opens asks for a connection, and holds what is told against what is to be.
func opens(t *testing.T, n *wire.Net, c int) {
	t.Helper()
	want := api.OK
	if c == 0 {
		want = api.ErrRoom
	}
	if got, e := n.Open(); got != c || e != want {
		t.Errorf("Open = %d, %d, want %d, %d", got, e, c, want)
	}
}

// TestRoom: 9.1, at most 16 connections that are not over, however many are; numbers tell how often there was room.
func TestRoom(t *testing.T) {
	n := wire.New()
	for c := range 16 {
		opens(t, n, c+1)
	}
	for range 3 {
		opens(t, n, 0)
	}
	n.Send(3, []byte("abc"))
	n.Cut(3, 2)
	opens(t, n, 0)
	n.Take(3, 1)
	opens(t, n, 0)
	n.Take(3, 0)
	opens(t, n, 0)
	n.Take(3, 5)
	for range 3 {
		n.Take(3, 5)
	}
	opens(t, n, 17)
	opens(t, n, 0)
	n.Drop(3)
	n.Drop(3)
	opens(t, n, 0)
	n.Cut(17, -1)
	n.Drop(5)
	n.Take(5, 4)
	opens(t, n, 0)
	n.Cut(4, 0)
	n.Cut(4, 0)
	n.Cut(16, 9)
	opens(t, n, 18)
	opens(t, n, 19)
	opens(t, n, 0)
}

// TestManyOver: 9.1 and P1, connections that are over take no room, and there may be many of them.
func TestManyOver(t *testing.T) {
	const many = 200000
	n := wire.New()
	for c := 1; c <= many; c++ {
		if got, e := n.Open(); got != c || e != api.OK {
			t.Fatalf("Open = %d, %d, want %d", got, e, c)
		}
		n.Answer(c, []byte{byte(c)})
		n.Cut(c, 0)
	}
	for c := 1; c <= many; c++ {
		if b := n.Got(c); len(b) != 1 || b[0] != byte(c) || n.Drop(c) != api.OK {
			t.Fatalf("connection %d: %q", c, b)
		}
	}
}

// TestNets: P2 and 9.5, what happens on one network is nothing to another one; the same calls are answered the same.
func TestNets(t *testing.T) {
	one, two := wire.New(), wire.New()
	for c := range 16 {
		opens(t, one, c+1)
	}
	opens(t, one, 0)
	opens(t, two, 1)
	one.Send(1, []byte("one"))
	two.Send(1, []byte("two"))
	one.Cut(1, 0)
	if b, e := two.Take(1, 9); string(b) != "two" || e != api.OK || two.Over(1) || !one.Over(1) {
		t.Errorf("Take = %q, %d, then Over %t, %t", b, e, two.Over(1), one.Over(1))
	}
}

// TestUnmade: P1, no call panics on a network that New did not make.
func TestUnmade(t *testing.T) {
	n := new(wire.Net)
	if n.Flight(1) != 0 || len(n.Got(1)) > 0 || n.Over(1) || n.Drop(1) != api.ErrNone || n.Cut(1, 0) != api.ErrNone {
		t.Error("a connection is there")
	}
	opens(t, n, 1)
}

// spoil writes over bytes, up to their capacity.
func spoil(b []byte) {
	b = b[:cap(b)]
	for i := range b {
		b[i] = 0xaa
	}
}

// TestApart: R3, what is sent either way is neither changed nor kept, what lies behind its length is neither read nor written, and no answer shares memory with another one, or with what is kept.
func TestApart(t *testing.T) {
	for size := 1; size <= 12; size++ {
		n := wire.New()
		n.Open()
		n.Open()
		for range 5 {
			there, back := []byte("there, behind"), []byte("back, behind")
			n.Send(1, there[:5])
			n.Send(2, there[:3])
			n.Answer(1, back[:4])
			n.Answer(2, back[:2])
			if string(there) != "there, behind" || string(back) != "back, behind" {
				t.Fatalf("what was sent is now %q, %q", there, back)
			}
			spoil(there)
			spoil(back)
			spoil(n.Got(1))
			spoil(append(n.Got(2), "more"...))
		}
		var taken [][]byte
		for n.Flight(1) > 0 {
			b, e := n.Take(1, size)
			if e != api.OK {
				t.Fatalf("Take = %d", e)
			}
			taken = append(taken, bytes.Clone(b))
			spoil(append(b, "more"...))
			spoil(b)
			n.Send(2, []byte("+"))
		}
		if got := string(bytes.Join(taken, nil)); got != strings.Repeat("there", 5) {
			t.Errorf("%d by %d: took %q", size, size, got)
		}
		n.Cut(2, 16)
		if b, _ := n.Take(2, 99); string(b) != strings.Repeat("the", 5)+"+" || string(n.Got(2)) != strings.Repeat("ba", 5) || string(n.Got(1)) != strings.Repeat("back", 5) {
			t.Errorf("%d by %d: took %q, got %q, %q", size, size, b, n.Got(2), n.Got(1))
		}
	}
}

// TestOften: P1, many bytes that are sent and taken one by one are so in time: what is on the way is not copied anew with each.
func TestOften(t *testing.T) {
	n := wire.New()
	n.Open()
	n.Send(1, bytes.Repeat([]byte("-"), 1<<20))
	rooms := testing.AllocsPerRun(1, func() {
		for i := range 1 << 18 {
			n.Send(1, []byte{byte(i)})
			n.Answer(1, []byte{byte(i)})
			if b, _ := n.Take(1, 1); len(b) != 1 {
				t.Fatalf("took %q", b)
			}
		}
	})
	if n.Flight(1) != 1<<20 || len(n.Got(1)) != 1<<19 {
		t.Errorf("Flight %d, Got %d bytes", n.Flight(1), len(n.Got(1)))
	}
	// A byte that is taken is new memory; beside that, room is made rarely.
	if rooms > 1<<18+1000 {
		t.Errorf("room is made %.0f times", rooms)
	}
}
