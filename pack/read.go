package pack

import (
	"math"

	"wattle/api"
)

// reader reads bytes from the front on. What is wrong it throws, as an api.Errno, where it meets it.
type reader struct {
	rest  []byte
	parts int
}

// Decode is the value at the front of bytes, and how many it has.
func Decode(b []byte) (v api.Value, n int, e api.Errno) {
	defer func() {
		if wrong, ok := recover().(api.Errno); ok {
			v, n, e = api.Value{}, 0, wrong
		}
	}()
	r := reader{rest: b}
	v = r.value(1)
	return v, len(b) - len(r.rest), api.OK
}

// demand throws ErrSyntax where what is read is not as it must be.
func demand(right bool) {
	if !right {
		panic(api.ErrSyntax)
	}
}

// take reads n bytes.
func (r *reader) take(n uint64) []byte {
	if n > uint64(len(r.rest)) {
		panic(api.ErrMore)
	}
	b := r.rest[:n]
	r.rest = r.rest[n:]
	return b
}

// octet reads a byte.
func (r *reader) octet() byte { return r.take(1)[0] }

// number reads a number in sevens.
func (r *reader) number() uint64 {
	var n uint64
	for at := 0; ; at += 7 {
		c := r.octet()
		// Of the tenth byte's bits one alone is below 2^64, and no byte follows it.
		demand(at < 63 || c == 1)
		n |= uint64(c&^more) << at
		if c < more {
			demand(c != 0 || at == 0)
			return n
		}
	}
}

// tag reads the tag of a value that is nested so deep.
func (r *reader) tag(deep int) byte {
	c := r.octet()
	r.parts++
	demand(c <= tagEdge && deep <= api.MaxDeep && r.parts <= api.MaxParts)
	return c
}

// value reads a value that is nested so deep.
func (r *reader) value(deep int) api.Value {
	switch r.tag(deep) {
	case tagFalse:
		return api.Value{Kind: api.KBool}
	case tagTrue:
		return api.Value{Kind: api.KBool, Bool: true}
	case tagInt:
		return api.Value{Kind: api.KInt, Int: unfold(r.number())}
	case tagStr:
		return api.Value{Kind: api.KStr, Str: string(r.take(r.number()))}
	case tagList:
		return r.list(deep)
	case tagMap:
		return r.dict(deep)
	case tagNode:
		return api.Value{Kind: api.KNode, Int: r.id()}
	case tagEdge:
		return api.Value{Kind: api.KEdge, Int: r.id()}
	}
	return api.Value{}
}

// list reads what is behind a list's tag. Room is made value by value: there may be fewer than it says.
func (r *reader) list(deep int) api.Value {
	v := api.Value{Kind: api.KList}
	for range r.number() {
		v.List = append(v.List, r.value(deep+1))
	}
	return v
}

// dict reads what is behind a map's tag.
func (r *reader) dict(deep int) api.Value {
	v := api.Value{Kind: api.KMap}
	last := ""
	for range r.number() {
		// No key is empty, so that the first one, too, must be above the one ahead.
		key := r.key()
		demand(key > last)
		last = key
		v.Keys = append(v.Keys, key)
		v.List = append(v.List, r.value(deep+1))
	}
	return v
}

// key reads a key.
func (r *reader) key() string {
	n := r.number()
	demand(n >= 1 && n <= api.MaxName)
	return string(r.take(n))
}

// id reads the number of a node or an edge.
func (r *reader) id() int64 {
	n := r.number()
	demand(n >= 1 && n <= math.MaxInt64)
	return int64(n)
}
