package rank

import (
	"strings"

	"wattle/api"
	"wattle/value"
)

// reader reads a key from the front on. Its calls tell beside what they read whether it was there.
type reader struct {
	rest  string
	parts int
}

// Back is the value of a key.
func Back(s string) (api.Value, api.Errno) {
	r := reader{rest: s}
	v, ok := r.value()
	// How deep values are, which Ints nodes and edges have, and which keys maps, the reader leaves to Check.
	if !ok || r.rest != "" || value.Check(v) != api.OK {
		return api.Value{}, api.ErrSyntax
	}
	return v, api.OK
}

// skip reads what is given, if it stands at the front.
func (r *reader) skip(what string) bool {
	rest, ok := strings.CutPrefix(r.rest, what)
	r.rest = rest
	return ok
}

// octet reads a byte.
func (r *reader) octet() (byte, bool) {
	if r.rest == "" {
		return 0, false
	}
	c := r.rest[0]
	r.rest = r.rest[1:]
	return c, true
}

// number reads a number's bytes, the highest first.
func (r *reader) number() (uint64, bool) {
	if len(r.rest) < width {
		return 0, false
	}
	var n uint64
	for i := range width {
		n = n<<8 | uint64(r.rest[i])
	}
	r.rest = r.rest[width:]
	return n, true
}

// text reads an ended text.
func (r *reader) text() (string, bool) {
	var b []byte
	for {
		piece, rest, ok := strings.Cut(r.rest, nought)
		if !ok {
			return "", false
		}
		b = append(b, piece...)
		r.rest = rest
		if r.skip(behind) {
			return string(b), true
		}
		if !r.skip(within) {
			return "", false
		}
		b = append(b, nought...)
	}
}

// value reads a value. It goes over no more parts than a value that may be has, and so no deeper either: a key of more can be too long to be read whole.
func (r *reader) value() (api.Value, bool) {
	if r.parts == api.MaxParts {
		return api.Value{}, false
	}
	r.parts++
	tag, ok := r.octet()
	if !ok {
		return api.Value{}, false
	}
	switch tag {
	case tagMap:
		return r.dict()
	case tagNode:
		n, ok := r.number()
		return api.Value{Kind: api.KNode, Int: int64(n)}, ok
	case tagEdge:
		n, ok := r.number()
		return api.Value{Kind: api.KEdge, Int: int64(n)}, ok
	case tagList:
		return r.list()
	case tagText:
		s, ok := r.text()
		return api.Value{Kind: api.KStr, Str: s}, ok
	case tagTruth:
		c, ok := r.octet()
		return api.Value{Kind: api.KBool, Bool: c == 1}, ok && c <= 1
	case tagNumber:
		n, ok := r.number()
		return api.Value{Kind: api.KInt, Int: int64(n ^ lowest)}, ok
	}
	return api.Value{}, tag == tagNull
}

// dict reads what is behind a map's tag.
func (r *reader) dict() (api.Value, bool) {
	v := api.Value{Kind: api.KMap}
	for !r.skip(end) {
		if !r.skip(also) {
			return api.Value{}, false
		}
		key, ok := r.text()
		if !ok {
			return api.Value{}, false
		}
		part, ok := r.value()
		if !ok {
			return api.Value{}, false
		}
		v.Keys = append(v.Keys, key)
		v.List = append(v.List, part)
	}
	return v, true
}

// list reads what is behind a list's tag.
func (r *reader) list() (api.Value, bool) {
	v := api.Value{Kind: api.KList}
	for !r.skip(end) {
		part, ok := r.value()
		if !ok {
			return api.Value{}, false
		}
		v.List = append(v.List, part)
	}
	return v, true
}
