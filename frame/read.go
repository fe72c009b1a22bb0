package frame

import "wattle/api"

// Reader is what came of a stream.
type Reader struct {
	held   []byte // what came of the frame that is not whole yet
	broken bool
}

// New is a reader to which nothing came.
func New() *Reader { return &Reader{} }

// What is known of the frame that is held.
const (
	part = iota
	wrong
	whole
)

// Feed takes bytes, and tells the loads that are whole.
func (r *Reader) Feed(b []byte) ([][]byte, api.Errno) {
	if r.broken {
		return nil, api.ErrProtocol
	}
	var loads [][]byte
frames:
	for {
		state, rest := r.next(b)
		b = rest
		switch state {
		case part:
			break frames
		case wrong:
			r.held, r.broken = nil, true
			return loads, api.ErrProtocol
		case whole:
			// The memory goes out with the load: the next frame begins in its own.
			loads = append(loads, r.held[width:])
			r.held = nil
		}
	}
	return loads, api.OK
}

// next holds bytes from the front of b on, till they are a whole frame or one that may not be, or b ends. It tells which, and the rest of b.
func (r *Reader) next(b []byte) (int, []byte) {
	b = r.hold(width, b)
	if len(r.held) < width {
		return part, b
	}
	size := told(r.held)
	if !may(size) {
		return wrong, b
	}
	b = r.hold(width+size, b)
	if len(r.held) < width+size {
		return part, b
	}
	return whole, b
}

// hold holds bytes from the front of b on, till so many are held, or b ends. It tells the rest of b.
func (r *Reader) hold(count int, b []byte) []byte {
	lacks := max(0, count-len(r.held))
	n := min(lacks, len(b))
	r.held = append(r.held, b[:n]...)
	return b[n:]
}

// Held is how many bytes wait for more.
func (r *Reader) Held() int { return len(r.held) }

// Broken tells whether there was a frame that may not be.
func (r *Reader) Broken() bool { return r.broken }
