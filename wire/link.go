package wire

import "bytes"

// pipe is bytes that go one way, in the order in which they were sent.
type pipe struct{ held []byte }

// size is how many bytes there are.
func (p *pipe) size() int { return len(p.held) }

// all is a copy of the bytes.
func (p *pipe) all() []byte { return bytes.Clone(p.held) }

// put puts bytes behind all others.
func (p *pipe) put(b []byte) { p.held = append(p.held, b...) }

// take takes the first bytes out: at most so many.
func (p *pipe) take(most int) []byte {
	n := min(most, len(p.held))
	b := bytes.Clone(p.held[:n])
	p.held = p.held[n:]
	if len(p.held) == 0 {
		// The memory of what was taken is let go.
		p.held = nil
	}
	return b
}

// keep keeps the first bytes alone: at most so many.
func (p *pipe) keep(most int) { p.held = bytes.Clone(p.held[:min(most, len(p.held))]) }

// link is a connection: what is on the way to the server is its own pipe.
type link struct {
	pipe
	back pipe
	cut  bool
}

// over tells whether nothing goes to the server any more.
func (l *link) over() bool { return l.cut && l.size() == 0 }
